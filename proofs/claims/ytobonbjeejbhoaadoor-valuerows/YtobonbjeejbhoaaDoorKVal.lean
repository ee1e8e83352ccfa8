/- Contract of value.valueOf. -/
import Derived.Test.YtobonbjeejbhoaaDoorKBytes
namespace Go.Proofs.YtobonbjeejbhoaaDoor
open Go.RowKit Go.Lib

/-- The value that these bytes are, also one that may not be. -/
def valG (l : List UInt8) : GV :=
  if (l.getD 0 0).toNat = 1 then ⟨1, ((l.getD 1 0).toNat : Int), ⟨#[]⟩⟩ else if (l.getD 0 0).toNat = 2 then ⟨2, (decN (l.drop 1) : Int) - 9223372036854775808, ⟨#[]⟩⟩
  else if (l.getD 0 0).toNat = 3 then ⟨3, 0, ⟨((l.drop 1).take (l.length - 2)).toArray⟩⟩ else ⟨((l.getD 0 0).toNat : Int), 0, ⟨#[]⟩⟩
/-- As many bytes as its kind has. -/
def fitL (l : List UInt8) : Prop :=
  l ≠ [] ∧ ((l.getD 0 0).toNat = 1 → l.length = 2) ∧ ((l.getD 0 0).toNat = 2 → l.length = 9) ∧ ((l.getD 0 0).toNat = 3 → 2 ≤ l.length) ∧ ((l.getD 0 0).toNat ≠ 1 → (l.getD 0 0).toNat ≠ 2 → (l.getD 0 0).toNat ≠ 3 → l.length = 1)
theorem rb_tail {w : World} {B b off cap : Nat} {l : List UInt8} (hbB : b < B) (hl : 1 ≤ l.length) (hcap : l.length ≤ cap) (hm : cap ≤ maxLen) (hlen : l.length ≤ 1000000000000)
    (hcell : ∀ i, i < l.length → w.cell? ⟨b, off + i, none⟩ = some (.int .u8 ((l.getD i 0).toNat : Int))) : RBp w B (.slice (some ⟨b, off + 1, none⟩) (l.length - 1) (cap - 1)) (l.drop 1) :=
  rb_drop hbB hl hcap hm hlen hcell
theorem ret_agg {g : GV} {k n : Int} {t : ByteArray} (h : g = ⟨k, n, t⟩) : Ending.returned (.agg #[.int .i64 k, .int .i64 n, .string t]) = .returned g.agg := by rw [h]; rfl

set_option maxHeartbeats 1600000 in
set_option maxRecDepth 100000 in
theorem valueOf_any (v : Value) (B : Nat) (l : List UInt8) (w : World) (hB : B ≤ w.heap.size) (h : RBp w B v l) (hf : fitL l) : Calls Tryd.prog 23 #[v] w fun e w' => e = .returned (valG l).agg ∧ Below w.heap.size w w' := by
  obtain ⟨hl, f1, f2, f3, f4⟩ := hf
  have hlen : l.length ≤ 1000000000000 := h.1
  have hpos : 0 < l.length := List.length_pos_iff.2 hl
  obtain ⟨b, off, cap, hbB, hcap, hm, rfl, hc⟩ := rb_some h hl
  have c0 := hc 0 hpos
  rw [Nat.add_zero] at c0
  have hlI : (l.length : Int) ≤ 1000000000000 := by omega
  have hli : (0 : Int) < (l.length : Int) := by omega
  have hm' : cap ≤ 9223372036854775807 := hm
  have hcI : (l.length : Int) ≤ (cap : Int) := by omega
  have hmI : (cap : Int) ≤ 9223372036854775807 := by omega
  obtain ⟨g, hg⟩ : ∃ g, g = valG l := ⟨_, rfl⟩
  rw [← hg]
  unfold valG at hg
  have hcb : (l.getD 0 0).toNat < 256 := UInt8.toNat_lt _
  have hbw : b < w.heap.size := by omega
  have Bw : Below w.heap.size w ((w.alloc (.cells #[.int .i64 0, .int .i64 0, .string ⟨#[]⟩] 42)).alloc (.cells #[.int .i64 ((l.getD 0 0).toNat : Int), .int .i64 0, .string ⟨#[]⟩] 42)) := one_new' (one_new' (Below.refl _ _) _) _
  have HW := hide Bw
  by_cases h1 : (l.getD 0 0).toNat = 1
  · rw [if_pos h1] at hg
    have e2 := f1 h1
    have c1 := hc 1 (by omega)
    rw [h1] at c0 HW
    have hcb1 : ((l.getD 1 0).toNat : Int) < 256 := by have := UInt8.toNat_lt (l.getD 1 0); omega
    generalize (l.getD 1 0).toNat = d at *
    have HG := hide hg
    have d1 := (Bw.cell (p := ⟨b, off + 1, none⟩) hbw).trans c1
    rw [h1] at d1
    have hce : cap ≠ 1 := by omega
    rw [e2] at *
    clear hg f1 f2 f3 f4 hc h hl hpos hm h1 Bw
    go_enter Tryd.func23, Tryd.ntmps23
    go_wp2
    refine bodyPost_ret (v := .agg #[.int .i64 1, .int .i64 (d : Int), .string ⟨#[]⟩]) ?_ rfl ⟨ret_agg (unhide HG), one_new' (one_new' (Below.refl _ _) _) _⟩
    rw [results_cell1 rfl]
    go_simp
  rw [if_neg h1] at hg
  by_cases h2 : (l.getD 0 0).toNat = 2
  · rw [if_pos h2] at hg
    have e2 := f2 h2
    rw [h2] at c0 HW
    have HI : Hid (∀ W, Below w.heap.size w W → Calls Tryd.prog 39 #[.slice (some ⟨b, off + 1, none⟩) 8 (cap - 1)] W fun e w' => e = .returned (.int .i64 ((decN (l.drop 1) : Int) - 9223372036854775808)) ∧ w' = W) := fun W hW => by
      have r := (rb_tail hbB hpos hcap hm hlen hc).below hW hB
      rw [e2] at r
      exact intOf_any _ B _ W r (by simp [e2])
    generalize (decN (l.drop 1) : Int) - 9223372036854775808 = d at *
    have HG := hide hg
    have hce : cap ≠ 1 := by omega
    rw [e2] at *
    clear hg f1 f2 f3 f4 hc h hl hpos hm h1 h2 Bw
    go_enter Tryd.func23, Tryd.ntmps23
    go_wp2_with (first | (go_at_call 39; refine (unhide HI _ (unhide HW)).mono ?_; clear HI; rintro e w1 ⟨rfl, rfl⟩))
    refine bodyPost_ret (v := .agg #[.int .i64 2, .int .i64 d, .string ⟨#[]⟩]) ?_ rfl ⟨ret_agg (unhide HG), one_new' (one_new' (Below.refl _ _) _) _⟩
    rw [results_cell1 rfl]
    go_simp
  rw [if_neg h2] at hg
  by_cases h3 : (l.getD 0 0).toNat = 3
  · rw [if_pos h3] at hg
    obtain ⟨N, hN⟩ : ∃ N, l.length = N + 2 := ⟨l.length - 2, by have := f3 h3; omega⟩
    rw [h3] at c0 Bw
    have hcv := conv_any _ B ((l.drop 1).take N) _ (rb_first (n := N) (by have r := (rb_tail hbB hpos hcap hm hlen hc).below Bw hB; simpa using r) (by simp; omega))
    rw [hN, Nat.add_sub_cancel] at hg
    generalize (((l.drop 1).take N).toArray) = ta at *
    have HG := hide hg
    have hce : cap ≠ 1 := by omega
    have hNI : (N : Int) ≤ 1000000000000 := by omega
    have hN1 : N + 2 - 1 = N + 1 := by omega
    have hNc : N ≤ cap - 1 := by omega
    rw [hN] at *
    clear hg f1 f2 f3 f4 hc h hl hpos hm h1 h2 h3 Bw
    go_enter Tryd.func23, Tryd.ntmps23
    go_wp2
    refine bodyPost_ret (v := .agg #[.int .i64 3, .int .i64 0, .string ⟨ta⟩]) ?_ rfl ⟨ret_agg (unhide HG), one_new' (one_new' (Below.refl _ _) _) _⟩
    rw [results_cell1 rfl]
    go_simp
  · rw [if_neg h3] at hg
    have e1 := f4 h1 h2 h3
    have HG := hide hg
    have b1 : (((l.getD 0 0).toNat : Int) == 1) = false := beq_eq_false_iff_ne.2 (fun e => h1 (by omega))
    have b2 : (((l.getD 0 0).toNat : Int) == 2) = false := beq_eq_false_iff_ne.2 (fun e => h2 (by omega))
    have b3 : (((l.getD 0 0).toNat : Int) == 3) = false := beq_eq_false_iff_ne.2 (fun e => h3 (by omega))
    have hcI2 : ((l.getD 0 0).toNat : Int) < 256 := by omega
    generalize (l.getD 0 0).toNat = c at *
    rw [e1] at *
    by_cases hce : cap = 1
    · subst hce
      clear hg f1 f2 f3 f4 hc h hl hpos hm h1 h2 h3 Bw HW hcb
      go_enter Tryd.func23, Tryd.ntmps23
      go_wp2
      refine bodyPost_ret (v := .agg #[.int .i64 (c : Int), .int .i64 0, .string ⟨#[]⟩]) ?_ rfl ⟨ret_agg (unhide HG), one_new' (one_new' (Below.refl _ _) _) _⟩
      rw [results_cell1 rfl]
      go_simp
    · clear hg f1 f2 f3 f4 hc h hl hpos hm h1 h2 h3 Bw HW hcb
      go_enter Tryd.func23, Tryd.ntmps23
      go_wp2
      refine bodyPost_ret (v := .agg #[.int .i64 (c : Int), .int .i64 0, .string ⟨#[]⟩]) ?_ rfl ⟨ret_agg (unhide HG), one_new' (one_new' (Below.refl _ _) _) _⟩
      rw [results_cell1 rfl]
      go_simp
end Go.Proofs.YtobonbjeejbhoaaDoor
