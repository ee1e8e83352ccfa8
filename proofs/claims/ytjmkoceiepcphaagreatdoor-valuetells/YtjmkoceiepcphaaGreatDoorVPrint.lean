/- Contract of value.Print. -/
import Derived.Test.YtjmkoceiepcphaaGreatDoorVShelf
import Derived.Test.YtjmkoceiepcphaaGreatDoorVRefPrint
import Derived.Lib.LaidTab
namespace Go.Proofs.YtjmkoceiepcphaaGreatDoor
open Go.RowKit Go.Lib Go.Proofs

theorem Tryz.extra155 : Builder.Extra Tryz.prog Tryz.lays155_ren := {
  sizeBuilder := by kernel_rfl
  liesBuilder := by kernel_rfl
  t5 := Tryz.lays155.t5
  a5 := Tryz.lays155.a5
  z5 := Tryz.lays155.z5
  v5 := Tryz.lays155.v5
  infoByte := by kernel_rfl
  cellsByte := by kernel_rfl
  sizeByte := by kernel_rfl
  neB5 := by decide }
/-- The library's greatest length (its variable internal/bytealg.MaxLen) holds an int, whatever int. -/
def MX (w : World) : Prop := ∃ m : Int, w.cell? ⟨1, 0, none⟩ = some (.int .i64 m)
/-- The library's table of powers of ten, as laid. -/
def PT (w : World) : Prop := TabIs Tryz.prog w "internal/strconv.uint64pow10" .u64 pow10Tab
theorem fmt_any (n : Int) (w : World) (h0 : -9223372036854775808 ≤ n) (h1 : n < 9223372036854775808) (hT : PT w) :
    Calls Tryz.prog 24 #[.int .i64 n, .int .i64 10] w fun e w' => e = .returned (.string ⟨(itoa n).toArray⟩) ∧ Below w.heap.size w w' := by
  have h : Calls Tryz.prog 24 #[.int .i64 n, .int .i64 10] w fun e w' => e = .returned (.string ⟨(itoa n).toArray⟩) ∧ ∃ k os, w' = Sort.grow (w.drewN k) os := Any.strconv_FormatInt_10 Tryz.lays173 n h0 (by omega) w hT
  refine h.mono ?_
  rintro e w' ⟨rfl, k, os, rfl⟩
  exact ⟨rfl, ⟨rfl, rfl, rfl, by simp [Sort.grow], fun i hi => by simp [Sort.grow, Array.getElem?_append_left hi]⟩⟩
theorem idx_hit (c : UInt8) (l : List UInt8) (h : c = 39) : index (c :: l) [39] = 0 := by subst h; simp [index, List.isPrefixOf]
theorem idx_skip (c : UInt8) (l : List UInt8) (h : c ≠ 39) : index (c :: l) [39] = if index l [39] = -1 then -1 else index l [39] + 1 := by
  have hb : ([39] : List UInt8).isPrefixOf (c :: l) = false := by simp [List.isPrefixOf]; exact fun e => h e.symm
  rw [index, hb]
  simp
theorem esc_same {l : List UInt8} (h : index l [39] = -1) : esc l = l := by
  induction l with
  | nil => rfl
  | cons c r ih =>
    by_cases h39 : c = 39
    · rw [idx_hit c r h39] at h; omega
    · rw [idx_skip c r h39] at h
      have hr : index r [39] = -1 := by have := index_ge r [39]; split at h <;> omega
      have e : esc (c :: r) = (if c = 39 then [39, 39] else [c]) ++ esc r := by simp [esc]
      rw [e, if_neg h39, ih hr]; rfl
theorem esc_at {l : List UInt8} {i : Nat} (h : index l [39] = i) : esc l = l.take i ++ [39, 39] ++ esc (l.drop (i + 1)) := by
  induction l generalizing i with
  | nil => simp [index] at h
  | cons c r ih =>
    have e : esc (c :: r) = (if c = 39 then [39, 39] else [c]) ++ esc r := by simp [esc]
    by_cases h39 : c = 39
    · rw [idx_hit c r h39] at h
      obtain rfl : i = 0 := by omega
      rw [e, if_pos h39]; rfl
    · rw [idx_skip c r h39] at h
      have hg := index_ge r [39]
      split at h
      · omega
      · obtain ⟨j, hj⟩ : ∃ j : Nat, index r [39] = j := ⟨(index r [39]).toNat, by omega⟩
        obtain rfl : i = j + 1 := by omega
        rw [e, if_neg h39, ih hj]; simp
theorem rep_count : ∀ (k : Nat) (l : List UInt8), count l [39] = k → replaceK [39] [39, 39] k l = esc l
  | 0, l, h => by
    rw [replaceK]
    refine (esc_same ?_).symm
    have hg := index_ge l [39]
    rcases Int.lt_or_le (index l [39]) 0 with h1 | h1
    · omega
    · obtain ⟨i, hi⟩ := Int.eq_ofNat_of_zero_le h1
      rw [count_hit (by simp) hi] at h; omega
  | k + 1, l, h => by
    obtain ⟨i, hi⟩ := index_of_count (s := l) (old := [39]) (by omega)
    rw [replaceK_hit _ _ _ _ i hi, esc_at hi]
    rw [count_hit (by simp) hi] at h
    have := rep_count k (l.drop (i + 1)) (by have h2 : [(39 : UInt8)].length = 1 := rfl; rw [h2] at h; omega)
    simp only [List.length_cons, List.length_nil, Nat.zero_add]
    rw [this]
theorem rep_esc (l : List UInt8) : replaceAll l [39] [39, 39] = esc l := by
  unfold replaceAll replace replaceNum
  rw [if_neg (by decide), if_pos (.inl (by decide))]
  exact rep_count _ l rfl
theorem rep_any (t : ByteArray) (w : World) (ht : t.size ≤ 40) (hM : MX w) :
    Calls Tryz.prog 25 #[.string t, .string ⟨#[39]⟩, .string ⟨#[39, 39]⟩] w fun e w' => e = .returned (.string ⟨(esc t.data.toList).toArray⟩) ∧ Below w.heap.size w w' := by
  obtain ⟨m, hm⟩ := hM
  have h : Calls Tryz.prog 25 #[.string t, .string ⟨#[39]⟩, .string ⟨#[39, 39]⟩] w fun e w' => e = .returned (.string ⟨(replaceAll t.data.toList [39] [39, 39]).toArray⟩) ∧ Below w.heap.size w w' := Any.strings_ReplaceAll { Tryz.lays155 with } Tryz.extra155 t ⟨#[39]⟩ ⟨#[39, 39]⟩ m w (by omega) hm (by decide) (by have := countB_mul_le ⟨#[39]⟩ (by decide) _ t (Nat.le_refl _); have e1 : (⟨#[39]⟩ : ByteArray).size = 1 := rfl; have e2 : (⟨#[39, 39]⟩ : ByteArray).size = 2 := rfl; rw [e1] at this; rw [e2]; omega)
  refine h.mono ?_
  rintro e w' ⟨rfl, hb⟩
  exact ⟨by rw [rep_esc], hb⟩
theorem MX.below {w w' : World} (h : MX w) (hb : Below w.heap.size w w') : MX w' := by
  obtain ⟨m, hm⟩ := h
  exact ⟨m, (hb.cell (p := ⟨1, 0, none⟩) (lt_of_cell hm)).trans hm⟩

set_option maxHeartbeats 3200000 in
theorem print_any (g : GV) (w : World) (hg : g.ok) (hM : MX w) (hT : ∀ W, Below w.heap.size w W → PT W) :
    Calls Tryz.prog 10 #[g.agg] w fun e w' => e = .returned (.string ⟨(printG g).toArray⟩) ∧ Below w.heap.size w w' := by
  have HA := hide (fun W => is_any g W hg)
  obtain ⟨r, hr⟩ : ∃ r, r = printG g := ⟨_, rfl⟩
  rw [← hr]
  unfold printG at hr
  have HD := hide (fun W h => fmt_any g.int W hg.1 hg.2.1 (hT W h))
  have HX := hide hM
  obtain ⟨k, n, t⟩ := g
  have hk := hide (may_kinds (g := ⟨k, n, t⟩))
  have hk3 := hide (fun h => may_kind3 (n := n) (t := t) h)
  clear hg hM hT
  simp only [GV.agg_eq] at HA ⊢
  dsimp only at hr HD hk
  obtain ⟨m, hm⟩ : ∃ m, m = GV.may ⟨k, n, t⟩ := ⟨_, rfl⟩
  rw [← hm] at HA hr hk
  cases m with
  | false =>
    rw [if_pos rfl] at hr
    have HR := hide hr
    clear hr hm hk hk3 HD HX
    go_enter Tryz.func10, Tryz.ntmps10
    go_wp2_with (go_at_call 6; refine (unhide HA _).mono ?_; clear HA; rintro e w1 ⟨rfl, hb1⟩)
    go_ret
    exact ⟨ret_str (unhide HR).symm, one_step (one_new' (Below.refl _ _) _) hb1⟩
  | true =>
    rw [if_neg (by decide)] at hr
    have HM := hide hm
    clear hm
    rcases unhide hk rfl with rfl | rfl | rfl | rfl
    · rw [if_pos rfl] at hr
      have HR := hide hr
      clear hr hk hk3 HD HX HM
      go_enter Tryz.func10, Tryz.ntmps10
      go_wp2_with (go_at_call 6; refine (unhide HA _).mono ?_; clear HA; rintro e w1 ⟨rfl, hb1⟩; have Q1 := hide (one_step (one_new' (Below.refl _ _) _) hb1); obtain ⟨a0, a1, a2, _, _, _⟩ := (B3.new w w.heap.size _ _ _ rfl).after hb1; clear hb1)
      go_ret
      exact ⟨ret_str (unhide HR).symm, unhide Q1⟩
    · rw [if_neg (by decide), if_pos rfl] at hr
      by_cases h1 : n = 1
      · subst h1
        rw [if_pos rfl] at hr
        have HR := hide hr
        clear hr hk hk3 HD HX HM
        go_enter Tryz.func10, Tryz.ntmps10
        go_wp2_with (go_at_call 6; refine (unhide HA _).mono ?_; clear HA; rintro e w1 ⟨rfl, hb1⟩; have Q1 := hide (one_step (one_new' (Below.refl _ _) _) hb1); obtain ⟨a0, a1, a2, _, _, _⟩ := (B3.new w w.heap.size _ _ _ rfl).after hb1; clear hb1)
        go_ret
        exact ⟨ret_str (unhide HR).symm, unhide Q1⟩
      · have h1b : (n == 1) = false := by simpa using h1
        rw [if_neg h1] at hr
        have HR := hide hr
        clear hr hk hk3 HD h1 HX HM
        go_enter Tryz.func10, Tryz.ntmps10
        go_wp2_with (go_at_call 6; refine (unhide HA _).mono ?_; clear HA; rintro e w1 ⟨rfl, hb1⟩; have Q1 := hide (one_step (one_new' (Below.refl _ _) _) hb1); obtain ⟨a0, a1, a2, _, _, _⟩ := (B3.new w w.heap.size _ _ _ rfl).after hb1; clear hb1)
        go_ret
        exact ⟨ret_str (unhide HR).symm, unhide Q1⟩
    · rw [if_neg (by decide), if_neg (by decide), if_pos rfl] at hr
      have HR := hide hr
      clear hr hk hk3 HX HM
      go_enter Tryz.func10, Tryz.ntmps10
      go_wp2_with (first
        | (go_at_call 6; refine (unhide HA _).mono ?_; clear HA; rintro e w1 ⟨rfl, hb1⟩; have Q1 := hide (one_step (one_new' (Below.refl _ _) _) hb1); obtain ⟨a0, a1, a2, _, _, _⟩ := (B3.new w w.heap.size _ _ _ rfl).after hb1; clear hb1)
        | (go_at_call 24; refine (unhide HD _ (unhide Q1)).mono ?_; clear HD; rintro e w2 ⟨rfl, hb2⟩))
      go_ret
      exact ⟨ret_str (unhide HR).symm, one_step (unhide Q1) hb2⟩
    · rw [if_neg (by decide), if_neg (by decide), if_neg (by decide)] at hr
      have ht := unhide hk3 (unhide HM).symm
      have HR := hide hr
      have hle : (esc t.data.toList).length ≤ 80 := by have := esc_len t.data.toList; have e : t.data.toList.length = t.size := by simp
                                                       omega
      have HP := hide (fun W h => rep_any t W ht ((unhide HX).below h))
      clear hr hk hk3 HX HM HD
      go_enter Tryz.func10, Tryz.ntmps10
      go_wp2_with (first
        | (go_at_call 6; refine (unhide HA _).mono ?_; clear HA; rintro e w1 ⟨rfl, hb1⟩; have Q1 := hide (one_step (one_new' (Below.refl _ _) _) hb1); obtain ⟨a0, a1, a2, _, _, _⟩ := (B3.new w w.heap.size _ _ _ rfl).after hb1; clear hb1)
        | (go_at_call 25; refine (unhide HP _ (unhide Q1)).mono ?_; clear HP; rintro e w2 ⟨rfl, hb2⟩))
      go_ret
      exact ⟨congrArg (fun x => Ending.returned (.string x)) (cat_eq (by rw [unhide HR]; simp [ByteArray.data_append])), one_step (unhide Q1) hb2⟩
end Go.Proofs.YtjmkoceiepcphaaGreatDoor
