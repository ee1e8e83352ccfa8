/- Contract of value.Test. -/
import Derived.Test.YtehgoioinogmkabGreatDoorJVOrdVIsVTest
import Derived.Test.YtehgoioinogmkabGreatDoorVSum3
import Derived.Test.YtehgoioinogmkabGreatDoorJNumsDecFaultsVErr
import Derived.Laws.BytesArg
import Derived.Lib.IndexLaws
import Derived.Lib.BytesEntry
import Derived.Lib.EndianBits
import Derived.Test.YtehgoioinogmkabGreatDoorJRows2PutRowVCmpVBl
import Derived.Test.YtehgoioinogmkabGreatDoorRows
import Derived.ProofKit
import Derived.LaidMore
import Derived.LaidHandle
import Derived.LaidLaws
import Derived.OpenShut
import Derived.Stop.Joined
import Derived.Carry
namespace Go.Proofs.YtehgoioinogmkabGreatDoor
open Go.RowKit Go.Lib

theorem two_below2 {w w1 : World} {o o' : Obj} (h : Below ((w.alloc o).alloc o').heap.size ((w.alloc o).alloc o') w1) : Below w.heap.size w w1 :=
  (((Below.refl _ _).alloc (Nat.le_refl _) _).alloc (by simp) _).trans (h.mono (by simp <;> omega))
theorem two_only {w : World} {o o' : Obj} : Below w.heap.size w ((w.alloc o).alloc o') := ((Below.refl _ _).alloc (Nat.le_refl _) _).alloc (by simp) _
set_option maxHeartbeats 3200000 in
theorem test_any (op : Int) (a b : GV) (w : World) (ha : a.ok) (hb : b.ok) :
    Calls Tryz.prog 129 #[.int .i64 op, a.agg, b.agg] w fun e w' => e = .returned (.tuple #[.int .i64 (testG op a b).1, errG (testG op a b).2]) ∧ Below w.heap.size w w' := by
  have HA := hide (fun W => is_any a W ha)
  have HB := hide (fun W => is_any b W hb)
  have HC := hide (fun W => csound_any a b W)
  have HH := hide (fun W => holds_any op (cmpG a b) W (cmpG_cmp.range a b))
  have HT : Hid (∀ p : Int × Int, testG op a b = p → ∀ e : Ending, e = .returned (.tuple #[.int .i64 p.1, errG p.2]) → e = .returned (.tuple #[.int .i64 (testG op a b).1, errG (testG op a b).2])) := by
    intro p hp e he
    rw [hp]; exact he
  clear ha hb
  obtain ⟨r, hr⟩ : ∃ r, r = testG op a b := ⟨_, rfl⟩
  rw [← hr] at HT ⊢
  unfold testG at hr
  generalize cmpG a b = c at *
  obtain ⟨k, n, t⟩ := a
  obtain ⟨k', n', t'⟩ := b
  rw [GV.agg_eq] at HA
  rw [GV.agg_eq] at HB
  rw [GV.agg_eq, GV.agg_eq] at HC ⊢
  dsimp only at hr
  generalize GV.may ⟨k, n, t⟩ = ma at *
  generalize GV.may ⟨k', n', t'⟩ = mb at *
  generalize holdsG op c = hh at *
  by_cases h5 : op < 5
  · rw [if_pos (.inl h5)] at hr
    have HR := hide hr
    clear hr
    go_enter Tryz.func129, Tryz.ntmps129
    go_wp2
    go_ret2
    exact ⟨unhide HT _ (unhide HR) _ rfl, two_only⟩
  by_cases h10 : 10 < op
  · rw [if_pos (.inr (.inl h10))] at hr
    have HR := hide hr
    clear hr
    go_enter Tryz.func129, Tryz.ntmps129
    go_wp2
    go_ret2
    exact ⟨unhide HT _ (unhide HR) _ rfl, two_only⟩
  cases ma with
  | false =>
    rw [if_pos (.inr (.inr (.inl rfl)))] at hr
    have HR := hide hr
    clear hr
    go_enter Tryz.func129, Tryz.ntmps129
    go_wp2_with (first
      | (go_at_call 121; refine (unhide HA _).mono ?_; clear HA; rintro e w1 ⟨rfl, hb1⟩))
    go_ret2
    exact ⟨unhide HT _ (unhide HR) _ rfl, two_below2 hb1⟩
  | true =>
    cases mb with
    | false =>
      rw [if_pos (.inr (.inr (.inr rfl)))] at hr
      have HR := hide hr
      clear hr
      go_enter Tryz.func129, Tryz.ntmps129
      go_wp2_with (first
        | (go_at_call 121; refine (unhide HA _).mono ?_; clear HA; rintro e w1 ⟨rfl, hb1⟩; obtain ⟨d0, d1, d2, _, _, _⟩ := (B3.new _ (w.heap.size + 1) k' n' t' (by simp)).after hb1)
        | (go_at_call 121; refine (unhide HB _).mono ?_; rintro e w2 ⟨rfl, hb2⟩))
      go_ret2
      have q1 := two_below2 hb1
      exact ⟨unhide HT _ (unhide HR) _ rfl, q1.trans (hb2.mono q1.size)⟩
    | true =>
      rw [if_neg (by simp; omega)] at hr
      by_cases k0 : k = 0
      · subst k0
        rw [if_pos (.inl rfl)] at hr
        have HR := hide hr
        clear hr
        go_enter Tryz.func129, Tryz.ntmps129
        go_wp2_with (first
          | (go_at_call 121; refine (unhide HA _).mono ?_; clear HA; rintro e w1 ⟨rfl, hb1⟩; have BA := hide (((B3.new w w.heap.size 0 n t rfl).alloc _).after hb1); have BB := hide ((B3.new _ (w.heap.size + 1) k' n' t' (by simp)).after hb1); obtain ⟨d0, d1, d2, _, _, _⟩ := unhide BB)
          | (go_at_call 121; refine (unhide HB _).mono ?_; rintro e w2 ⟨rfl, hb2⟩; obtain ⟨x0, x1, x2, _, _, _⟩ := (unhide BA).after hb2; obtain ⟨y0, y1, y2, _, _, _⟩ := (unhide BB).after hb2))
        go_ret2
        have q1 := two_below2 hb1
        exact ⟨unhide HT _ (unhide HR) _ rfl, q1.trans (hb2.mono q1.size)⟩
      by_cases k0' : k' = 0
      · subst k0'
        rw [if_pos (.inr rfl)] at hr
        have e0 : (k == 0) = false := by simpa using k0
        have HR := hide hr
        clear hr
        go_enter Tryz.func129, Tryz.ntmps129
        go_wp2_with (first
          | (go_at_call 121; refine (unhide HA _).mono ?_; clear HA; rintro e w1 ⟨rfl, hb1⟩; have BA := hide (((B3.new w w.heap.size k n t rfl).alloc _).after hb1); have BB := hide ((B3.new _ (w.heap.size + 1) 0 n' t' (by simp)).after hb1); obtain ⟨d0, d1, d2, _, _, _⟩ := unhide BB)
          | (go_at_call 121; refine (unhide HB _).mono ?_; rintro e w2 ⟨rfl, hb2⟩; obtain ⟨x0, x1, x2, _, _, _⟩ := (unhide BA).after hb2; obtain ⟨y0, y1, y2, _, _, _⟩ := (unhide BB).after hb2))
        go_ret2
        have q1 := two_below2 hb1
        exact ⟨unhide HT _ (unhide HR) _ rfl, q1.trans (hb2.mono q1.size)⟩
      rw [if_neg (by omega)] at hr
      have e0 : (k == 0) = false := by simpa using k0
      have e0' : (k' == 0) = false := by simpa using k0'
      by_cases hk : k = k'
      · subst hk
        rw [if_neg (by simp)] at hr
        have en : (k != k) = false := by simp
        cases hh with
        | true =>
          rw [if_pos rfl] at hr
          have HR := hide hr
          clear hr
          go_enter Tryz.func129, Tryz.ntmps129
          go_wp2_with (first
            | (go_at_call 121; refine (unhide HA _).mono ?_; clear HA; rintro e w1 ⟨rfl, hb1⟩; have BA := hide (((B3.new w w.heap.size k n t rfl).alloc _).after hb1); have BB := hide ((B3.new _ (w.heap.size + 1) k n' t' (by simp)).after hb1); obtain ⟨d0, d1, d2, _, _, _⟩ := unhide BB)
            | (go_at_call 121; refine (unhide HB _).mono ?_; rintro e w2 ⟨rfl, hb2⟩; obtain ⟨x0, x1, x2, _, _, _⟩ := (unhide BA).after hb2; obtain ⟨y0, y1, y2, _, _, _⟩ := (unhide BB).after hb2)
            | (go_at_call 167; refine (unhide HC _).mono ?_; rintro e w3 ⟨rfl, hb3⟩)
            | (go_at_call 166; refine (unhide HH _).mono ?_; rintro e w4 ⟨rfl, rfl⟩))
          go_ret2
          have q1 := two_below2 hb1
          have q2 := q1.trans (hb2.mono q1.size)
          exact ⟨unhide HT _ (unhide HR) _ rfl, q2.trans (hb3.mono q2.size)⟩
        | false =>
          rw [if_neg (by simp)] at hr
          have HR := hide hr
          clear hr
          go_enter Tryz.func129, Tryz.ntmps129
          go_wp2_with (first
            | (go_at_call 121; refine (unhide HA _).mono ?_; clear HA; rintro e w1 ⟨rfl, hb1⟩; have BA := hide (((B3.new w w.heap.size k n t rfl).alloc _).after hb1); have BB := hide ((B3.new _ (w.heap.size + 1) k n' t' (by simp)).after hb1); obtain ⟨d0, d1, d2, _, _, _⟩ := unhide BB)
            | (go_at_call 121; refine (unhide HB _).mono ?_; rintro e w2 ⟨rfl, hb2⟩; obtain ⟨x0, x1, x2, _, _, _⟩ := (unhide BA).after hb2; obtain ⟨y0, y1, y2, _, _, _⟩ := (unhide BB).after hb2)
            | (go_at_call 167; refine (unhide HC _).mono ?_; rintro e w3 ⟨rfl, hb3⟩)
            | (go_at_call 166; refine (unhide HH _).mono ?_; rintro e w4 ⟨rfl, rfl⟩))
          go_ret2
          have q1 := two_below2 hb1
          have q2 := q1.trans (hb2.mono q1.size)
          exact ⟨unhide HT _ (unhide HR) _ rfl, q2.trans (hb3.mono q2.size)⟩
      · rw [if_pos hk] at hr
        have en : (k != k') = true := by simpa using hk
        have HR := hide hr
        clear hr
        go_enter Tryz.func129, Tryz.ntmps129
        go_wp2_with (first
          | (go_at_call 121; refine (unhide HA _).mono ?_; clear HA; rintro e w1 ⟨rfl, hb1⟩; have BA := hide (((B3.new w w.heap.size k n t rfl).alloc _).after hb1); have BB := hide ((B3.new _ (w.heap.size + 1) k' n' t' (by simp)).after hb1); obtain ⟨d0, d1, d2, _, _, _⟩ := unhide BB)
          | (go_at_call 121; refine (unhide HB _).mono ?_; rintro e w2 ⟨rfl, hb2⟩; obtain ⟨x0, x1, x2, _, _, _⟩ := (unhide BA).after hb2; obtain ⟨y0, y1, y2, _, _, _⟩ := (unhide BB).after hb2))
        go_ret2
        have q1 := two_below2 hb1
        exact ⟨unhide HT _ (unhide HR) _ rfl, q1.trans (hb2.mono q1.size)⟩
end Go.Proofs.YtehgoioinogmkabGreatDoor
/- Contracts of the statements' helps: Num, known, Few. -/
namespace Go.Proofs.YtehgoioinogmkabGreatDoor
open Go.RowKit Go.Lib

end Go.Proofs.YtehgoioinogmkabGreatDoor
/- Slices of bytes that are read: string(bytes), bytes.IndexByte. -/
namespace Go.Proofs.YtehgoioinogmkabGreatDoor
open Go.RowKit Go.Lib

/-- A slice's value that reads as these bytes, in blocks below B. -/
def RBp (w : World) (B : Nat) (v : Value) (l : List UInt8) : Prop :=
  l.length ≤ 1000000000000 ∧ ((v = .slice none 0 0 ∧ l = []) ∨
    ∃ b off cap, b < B ∧ l.length ≤ cap ∧ cap ≤ maxLen ∧ v = .slice (some ⟨b, off, none⟩) l.length cap ∧ ∀ i, i < l.length → w.cell? ⟨b, off + i, none⟩ = some (.int .u8 ((l.getD i 0).toNat : Int)))
theorem RBp.below {w w' : World} {B B' : Nat} {v : Value} {l : List UInt8} (h : RBp w B v l) (hb : Below B' w w') (hB : B ≤ B') : RBp w' B v l := by
  obtain ⟨h1, h2 | ⟨b, off, cap, hbB, hc, hm, rfl, hcell⟩⟩ := h
  · exact ⟨h1, .inl h2⟩
  · exact ⟨h1, .inr ⟨b, off, cap, hbB, hc, hm, rfl, fun i hi => (hb.cell (p := ⟨b, off + i, none⟩) (Nat.lt_of_lt_of_le hbB hB)).trans (hcell i hi)⟩⟩

theorem nums_eq (l : List UInt8) : strOfNums (l.map fun c => (c.toNat : Int)) = ⟨l.toArray⟩ := by
  apply ByteArray.ext
  apply Array.ext'
  have e : ((fun n : Int => UInt8.ofNat n.toNat) ∘ fun c : UInt8 => (c.toNat : Int)) = id := by funext c; simp
  rw [strOfNums_data, List.map_map, e, List.map_id]
theorem conv_any (v : Value) (B : Nat) (l : List UInt8) (w : World) (hv : RBp w B v l) : (convert 22 9 v).run Tryz.prog w = .ok (.string ⟨l.toArray⟩) w := by
  obtain ⟨hlen, ⟨rfl, rfl⟩ | ⟨b, off, cap, hbB, hcap, hm, rfl, hcell⟩⟩ := hv
  · exact run_convert_bytes_nil w _ _ Tryz.underlying22 Tryz.underlying5 0 0 _ Tryz.underlying9
  · have h := run_convert_bytes_arg (P := Tryz.prog) w 22 5 Tryz.underlying22 Tryz.underlying5 b off l.length cap (l.map fun c => (c.toNat : Int)) (by simp) (fun i hi => by
      rw [hcell i hi]; simp [hi]) 9 Tryz.underlying9
    rw [h, nums_eq]

theorem rb_own {w : World} {B : Nat} {v : Value} {l : List UInt8} (h : w.ownsRow B 5 1 v l.length (byteCells l)) (hl : l.length ≤ 1000000000000) : RBp w w.heap.size v l := by
  have hh := h
  obtain ⟨h1, ⟨h2, h2'⟩ | ⟨g, cap, cur, h3, h4, h5, h6, h7, h8, h9⟩⟩ := h
  · exact ⟨hl, .inl ⟨h2, List.eq_nil_of_length_eq_zero h2'⟩⟩
  · have hg : g < w.heap.size := by
      rcases Nat.lt_or_ge g w.heap.size with h' | h'
      · exact h'
      · rw [Array.getElem?_eq_none h'] at h5; cases h5
    refine ⟨hl, .inr ⟨g, 0, cap, hg, h6, h7, h3, fun i hi => ?_⟩⟩
    have e2 : (byteCells l)[i]? = some (.int .u8 ((l.getD i 0).toNat : Int)) := by
      simp [byteCells, hi]
    have := hh.cells (g := g) (by rw [h3]; rfl) i _ e2
    have e3 : (⟨g, 0, none⟩ : Addr).add i = ⟨g, 0 + i, none⟩ := by unfold Addr.add; split <;> simp_all
    rw [e3] at this; exact this
end Go.Proofs.YtehgoioinogmkabGreatDoor
/- Contracts of the document's own look at a value, order and Compare. -/
namespace Go.Proofs.YtehgoioinogmkabGreatDoor
open Go.RowKit Go.Lib

theorem indexByte_zero_iff (l : List UInt8) : indexByte l 0 < 0 ↔ ∀ i, i < l.length → l.getD i 0 ≠ 0 := by
  constructor
  · intro h i hi e
    have h1 : indexByte l 0 = -1 := by have := indexByte_ge l 0; omega
    exact indexByte_none h1 i (by rw [List.getElem?_eq_getElem hi]; simp [List.getD_eq_getElem?_getD, hi] at e; rw [e])
  · intro h
    rcases Int.lt_or_le (indexByte l 0) 0 with h1 | h1
    · exact h1
    · obtain ⟨o, ho⟩ := Int.eq_ofNat_of_zero_le h1
      have h2 := (indexByte_some ho).1
      have h3 := (List.getElem?_eq_some_iff.1 h2)
      obtain ⟨h4, h5⟩ := h3
      exact absurd (by simp [List.getD_eq_getElem?_getD, h4, h5]) (h o h4)

theorem ba_getD (t : ByteArray) (k : Nat) (h : k < t.size) : t.data.toList.getD k 0 = t[k] := by
  have h2 : k < t.data.size := h
  show _ = t.data[k]
  simp only [List.getD_eq_getElem?_getD, Array.getElem?_toList, Array.getElem?_eq_getElem h2, Option.getD_some]

set_option maxHeartbeats 1600000 in
theorem plain_any (t : ByteArray) (w : World) (ht : t.size ≤ maxLen) :
    Calls Tryz.prog 118 #[.string t] w fun e w' => e = .returned (.bool (decide (indexByte t.data.toList 0 < 0))) ∧ w' = w := by
  have ht' : (t.size : Int) ≤ 9223372036854775807 := by unfold maxLen at ht; omega
  obtain ⟨m, hm⟩ : ∃ m, m = decide (indexByte t.data.toList 0 < 0) := ⟨_, rfl⟩
  rw [← hm]
  have HM := hide hm
  clear hm ht
  go_enter Tryz.func118, Tryz.ntmps118
  go_wp2
  go_loop [3] (fun i => ∃ k : Nat, k ≤ t.size ∧ i = .int .i64 k ∧ ∀ j, j < k → t.data.toList.getD j 0 ≠ 0) (fun i => t.size - (intOf i).toNat)
  case atStart => exact ⟨0, by omega, rfl, fun j h => by omega⟩
  case round =>
    obtain ⟨k, hk, rfl, hz⟩ := hrel
    have HZ := hide hz
    clear hz
    by_cases hlt : k < t.size
    · have HE := hide (ba_getD t k hlt)
      by_cases h0 : t[k].toNat = 0
      · have h0b : ((t[k].toNat : Int) == 0) = true := by simp [h0]
        have HN : Hid (m = false) := by
          have e := unhide HM
          refine hide (e.trans (decide_eq_false ?_))
          intro h
          refine (indexByte_zero_iff _).1 h k (by simpa using hlt) ?_
          rw [unhide HE]; exact UInt8.toNat_inj.1 h0
        clear h0
        go_wp2
        go_ret
        exact ⟨ret_bool (unhide HN).symm, rfl⟩
      · have h0b : ((t[k].toNat : Int) == 0) = false := beq_eq_false_iff_ne.2 (by omega)
        have HN : Hid (∀ j, j < k + 1 → t.data.toList.getD j 0 ≠ 0) := by
          refine hide (fun j hj => ?_)
          rcases Nat.lt_or_ge j k with h | h
          · exact unhide HZ j h
          · have : j = k := by omega
            subst this
            rw [unhide HE]
            intro hc; rw [hc] at h0; exact h0 rfl
        clear h0 HZ
        go_wp2
        go_round
        case rel => exact ⟨k + 1, by omega, by go_num, unhide HN⟩
        case measure => simp [intOf]; omega
    · have HN : Hid (m = true) := by
        refine hide ((unhide HM).trans (decide_eq_true ?_))
        refine (indexByte_zero_iff _).2 (fun i hi => unhide HZ i ?_)
        have : i < t.size := by simpa using hi
        omega
      go_wp2
      go_ret
      exact ⟨ret_bool (unhide HN).symm, rfl⟩

set_option maxHeartbeats 1600000 in
theorem refIs_any (g : GV) (w : World) (hg : g.ok) :
    Calls Tryz.prog 69 #[g.agg] w fun e w' => e = .returned (.bool g.may) ∧ w' = w.alloc (.cells #[.int .i64 g.kind, .int .i64 g.int, .string g.text] 26) := by
  obtain ⟨k, n, t⟩ := g
  obtain ⟨h1, h2, h3⟩ := hg
  unfold GV.agg
  obtain ⟨m, hm⟩ : ∃ m, m = GV.may ⟨k, n, t⟩ := ⟨_, rfl⟩
  rw [← hm]
  have HM := hide hm
  clear hm
  dsimp only at *
  have HP := hide (fun w => plain_any t w h3)
  have h3' : (t.size : Int) ≤ 9223372036854775807 := by unfold maxLen at h3; omega
  clear h3
  by_cases hk0 : k = 0
  · subst hk0
    by_cases hn : n = 0
    · subst hn
      go_enter Tryz.func69, Tryz.ntmps69
      go_wp2
      go_ret
      exact ⟨ret_bool (by rw [unhide HM]; simp [GV.may]), rfl⟩
    · have hnc : (n == 0) = false := by simp [hn]
      go_enter Tryz.func69, Tryz.ntmps69
      go_wp2
      go_ret
      exact ⟨ret_bool (by rw [unhide HM]; simp [GV.may, hnc]), rfl⟩
  · by_cases hk1 : k = 1
    · subst hk1
      by_cases hn : n = 0
      · subst hn
        go_enter Tryz.func69, Tryz.ntmps69
        go_wp2
        go_ret
        exact ⟨ret_bool (by rw [unhide HM]; simp [GV.may]), rfl⟩
      · have hnc : (n == 0) = false := by simp [hn]
        by_cases hn1 : n = 1
        · subst hn1
          go_enter Tryz.func69, Tryz.ntmps69
          go_wp2
          go_ret
          exact ⟨ret_bool (by rw [unhide HM]; simp [GV.may]), rfl⟩
        · have hne : (n == 1) = false := by simp [hn1]
          go_enter Tryz.func69, Tryz.ntmps69
          go_wp2
          go_ret
          exact ⟨ret_bool (by rw [unhide HM]; simp [GV.may, hnc, hne]), rfl⟩
    · by_cases hk2 : k = 2
      · subst hk2
        go_enter Tryz.func69, Tryz.ntmps69
        go_wp2
        go_ret
        exact ⟨ret_bool (by rw [unhide HM]; simp [GV.may]), rfl⟩
      · by_cases hk3 : k = 3
        · subst hk3
          by_cases hn : n = 0
          · subst hn
            by_cases h40 : t.size ≤ 40
            · go_enter Tryz.func69, Tryz.ntmps69
              go_wp2_with (go_at_call 118; refine (unhide HP _).mono ?_; rintro e w1 ⟨rfl, rfl⟩)
              go_ret
              exact ⟨ret_bool (by rw [unhide HM]; simp [GV.may, h40]), rfl⟩
            · go_enter Tryz.func69, Tryz.ntmps69
              go_wp2
              go_ret
              exact ⟨ret_bool (by rw [unhide HM]; simp [GV.may, h40]), rfl⟩
          · have hnb : (n == 0) = false := by simp [hn]
            go_enter Tryz.func69, Tryz.ntmps69
            go_wp2
            go_ret
            exact ⟨ret_bool (by rw [unhide HM]; simp [GV.may, hnb]), rfl⟩
        · have b0 : (k == 0) = false := by simp [hk0]
          have b1 : (k == 1) = false := by simp [hk1]
          have b2 : (k == 2) = false := by simp [hk2]
          have b3 : (k == 3) = false := by simp [hk3]
          go_enter Tryz.func69, Tryz.ntmps69
          go_wp2
          go_ret
          exact ⟨ret_bool (by rw [unhide HM]; simp [GV.may, b0, b1, b2, b3]), rfl⟩


theorem str_gtr (a b : ByteArray) (W : World) : Sem.run Tryz.prog (binOp BinOp.gtr 9 (.string a) (.string b)) W = .ok (.bool (!Op.bytesLess a.toList b.toList && !(a.toList == b.toList))) W := by
  simp [binOp, go_sem, Op.stringOp]
end Go.Proofs.YtehgoioinogmkabGreatDoor
/- From the row's condition on the listed variable to the fact that the walks ask. -/
namespace Go.Proofs.YtehgoioinogmkabGreatDoor
open Go.ChangeShapes Go.WideShapes Go.RowKit Go.Lib

abbrev laid1 : List (String × DataW Unit) := [("errors.errorType", Rows.laid_errors_errorType)]
theorem Tryz.own : ownKnob Tryz.prog.godebug = none := by kernel_rfl
theorem Tryz.et : Tryz.prog.globalNamed "errors.errorType" = some 0 := by kernel_rfl
theorem Tryz.rt : (Tryz.prog.cutTypes.find? (·.1 == "internal/reflectlite.rtype")).map (·.2) = some 173 := by kernel_rfl
theorem Tryz.oneRow : ((List.range 333).filter fun t => Tryz.prog.rowNamed t [101, 114, 114, 111, 114]) = [33] := by kernel_rfl
theorem Tryz.size : Tryz.prog.types.size = 333 := by kernel_rfl

theorem handle_of_laid {W : World} (h : laidMetH Tryz.prog laid1 W) : ET W := by
  have h' : laidMet Tryz.prog [] W ∧ handlesMet Tryz.prog [("errors.errorType", Rows.laid_errors_errorType)] W := h
  obtain ⟨name, u, ty, e1, e2, e3, e4, e5⟩ := h'.2 _ (List.mem_singleton.2 rfl)
  have en : name = [101, 114, 114, 111, 114] := (Option.some.inj e1).symm
  subst en
  obtain rfl := Option.some.inj (Tryz.rt.symm.trans e2)
  have hm : ty ∈ (List.range 333).filter fun t => Tryz.prog.rowNamed t [101, 114, 114, 111, 114] := List.mem_filter.2 ⟨List.mem_range.2 (by rw [← Tryz.size]; exact e3), e4⟩
  rw [Tryz.oneRow] at hm
  obtain rfl := List.mem_singleton.1 hm
  have hh : typeHandle Tryz.prog 33 = .pointer (some ⟨2, 33, none⟩) := by kernel_rfl
  rw [hh] at e5
  unfold ET
  simpa using World.var?_cell Tryz.et e5 0
/-- The door's own heap meets the condition. -/
theorem door_met (os : Os) (args : Array Value) : laidMetH Tryz.prog laid1 ((World.doorLaid Tryz.prog 400 os).forCall (fun _ _ => 0) ⟨#[], args, []⟩).memory :=
  laidMetH_of_parts3 (fuel := 8) (laidMet_of_run' 8 (by kernel_rfl) (by kernel_rfl)) (by kernel_rfl) (by kernel_rfl)
end Go.Proofs.YtehgoioinogmkabGreatDoor
/- Bytes that come in as an argument. -/
namespace Go.Proofs.YtehgoioinogmkabGreatDoor
open Go.ChangeShapes Go.WideShapes Go.ChangeAt Go.RowKit Go.Lib

theorem Tryz.laidOut : laidOutB Tryz.prog = true := by kernel_rfl
set_option maxRecDepth 100000 in
theorem xb_addr {W : World} {base : Nat} {a : Addr} {len cap : Nat} (h : Value.okWide Tryz.prog W .any base 22 (.slice (some a) len cap)) : a.spot = none ∧ a.block < W.heap.size := by
  simp only [Value.okWide, Tryz.underlying22, Cell.okWide, Cell.ok] at h
  obtain ⟨_, _, _, h2, row, cells, h3, _⟩ := h
  refine ⟨h2, ?_⟩
  rcases Nat.lt_or_ge a.block W.heap.size with h' | h'
  · exact h'
  · simp [World.shape?, Array.getElem?_eq_none h'] at h3
set_option maxRecDepth 100000 in
theorem xb_in {H : Type} {enc : TypeId × Value → H} {W : World} {base b0 : Nat} {hd : Bool} {a : Option Addr} {len cap : Nat} {d : DataW H} {ps : List MemPlace}
    (hv : Value.okWide Tryz.prog W .any base 22 (.slice a len cap)) (hT : DataW.Trod enc Tryz.prog W b0 (fun _ => true) hd 22 (.slice a len cap) d ps) :
    ∃ l : List UInt8, l.length = len ∧ len ≤ cap ∧ cap ≤ maxLen ∧ (len ≠ 0 → ∃ b off, a = some ⟨b, off, none⟩ ∧ b < W.heap.size ∧ ∀ i, i < len → W.cell? ⟨b, off + i, none⟩ = some (.int .u8 ((l.getD i 0).toNat : Int))) := by
  obtain ⟨fuel, hf⟩ := hT
  rcases open_ints Tryz.underlying22 Tryz.underlying5 (by kernel_rfl) hf with ⟨hcs, _⟩ | ⟨x, l, c, zs, hcs, _, hl, hm, hz, _, hcell, hwz⟩
  · simp [Value.cells] at hcs
    obtain ⟨rfl, rfl, rfl⟩ := hcs
    exact ⟨[], rfl, Nat.le_refl _, Nat.zero_le _, fun h => absurd rfl h⟩
  · simp [Value.cells] at hcs
    obtain ⟨rfl, rfl, rfl⟩ := hcs
    obtain ⟨hs, hb⟩ := xb_addr hv
    obtain ⟨b, off, spot⟩ := x
    simp only at hs hb
    subst hs
    have hzl : zs.length = cap := by simpa using hz
    have hlen : ((zs.take len).map fun z => z.toNat.toUInt8).length = len := by simp; omega
    refine ⟨(zs.take len).map fun z => z.toNat.toUInt8, hlen, by omega, hm, fun _ => ⟨b, off, rfl, hb, fun i hi => ?_⟩⟩
    have hi' : i < zs.length := by omega
    have h1 := hcell i hi'
    rw [Go.WideShapes.add_plain] at h1
    rw [h1]
    have hw := hwz zs[i] (List.getElem_mem hi')
    have hbd := bounds_u8 hw
    have e : ((zs.take len).map fun z => z.toNat.toUInt8).getD i 0 = zs[i].toNat.toUInt8 := by
      simp [List.getD_eq_getElem?_getD, hi, hi']
    have e2 : zs.getD i 0 = zs[i] := by simp [hi']
    have e3 : zs[i].toNat.toUInt8.toNat = zs[i].toNat := by
      show zs[i].toNat % 256 = _
      omega
    rw [e, e2, e3]
    congr 2
    omega
end Go.Proofs.YtehgoioinogmkabGreatDoor
