/- Contract of the document's Unkey. -/
import Derived.Test.YtobonbjeejbhoaaDoorKRef
import Derived.Deep.CutBlock
namespace Go.Proofs.YtobonbjeejbhoaaDoor
open Go.RowKit Go.Lib

/-- What the document's Unkey tells. -/
def RUnPost (U : Option (List GV)) (w : World) (e : Ending) (w' : World) : Prop :=
  Below w.heap.size w w' ∧ match U with
    | some gs => ∃ a k, e = .returned (.tuple #[.slice a gs.length k, .int .i64 0]) ∧ w'.ownsRow w.heap.size 42 3 (.slice a gs.length k) gs.length (gvsCells gs)
    | none => e = .returned (.tuple #[.slice none 0 0, .int .i64 20])
theorem run_no {U : Option (List GV)} {w w' : World} (h : U = none) (hb : Below w.heap.size w w') : RUnPost U w (.returned (.tuple #[.slice none 0 0, .int .i64 20])) w' := by
  subst h; exact ⟨hb, rfl⟩
/-- What stands at the head of its loop: what is read, and where. -/
def RU (U : Option (List GV)) (l : List UInt8) (w : World) (p : Nat) (done : List GV) (lv : Value) (wr : World) : Prop :=
  U = unG (l.drop p).length done (l.drop p) ∧ wr.ownsRow w.heap.size 42 3 lv done.length (gvsCells done) ∧ Below w.heap.size w wr

theorem drop_ne {l : List UInt8} {p : Nat} (h : p < l.length) : l.drop p ≠ [] := fun e => by
  have := congrArg List.length e
  simp at this
  omega
theorem none_short {l : List UInt8} {p : Nat} {done : List GV} {U : Option (List GV)} (hU : U = unG (l.drop p).length done (l.drop p)) (h : p < l.length) (hz : l.length - p < szG (l.drop p)) : U = none :=
  hU.trans (un_none (drop_ne h) (.inl (by simpa using hz)))
theorem drop_getD (l : List UInt8) (p i : Nat) : (l.drop p).getD i 0 = l.getD (p + i) 0 := by simp [List.getD_eq_getElem?_getD]
theorem sz1 {l : List UInt8} {p : Nat} (h : (l.getD p 0).toNat = 1) : szG (l.drop p) = 2 := by
  unfold szG; rw [drop_getD, Nat.add_zero, if_pos h]
theorem sz2 {l : List UInt8} {p : Nat} (h : (l.getD p 0).toNat = 2) : szG (l.drop p) = 9 := by
  unfold szG; rw [drop_getD, Nat.add_zero, if_neg (by omega), if_pos h]
theorem sz0 {l : List UInt8} {p : Nat} (h1 : (l.getD p 0).toNat ≠ 1) (h2 : (l.getD p 0).toNat ≠ 2) (h3 : (l.getD p 0).toNat ≠ 3) : szG (l.drop p) = 1 := by
  unfold szG; rw [drop_getD, Nat.add_zero, if_neg h1, if_neg h2, if_neg h3]
theorem take_getD (l : List UInt8) (n i : Nat) (h : i < n) : (l.take n).getD i 0 = l.getD i 0 := by simp [List.getD_eq_getElem?_getD, h]
theorem val1 {l : List UInt8} {p : Nat} (h : (l.getD p 0).toNat = 1) : valG ((l.drop p).take 2) = ⟨1, ((l.getD (p + 1) 0).toNat : Int), ⟨#[]⟩⟩ := by
  unfold valG
  rw [take_getD _ _ _ (by decide), drop_getD, Nat.add_zero, if_pos h, take_getD _ _ _ (by decide), drop_getD]
theorem val2 {l : List UInt8} {p : Nat} (h : (l.getD p 0).toNat = 2) : valG ((l.drop p).take 9) = ⟨2, (decN ((l.drop (p + 1)).take 8) : Int) - 9223372036854775808, ⟨#[]⟩⟩ := by
  unfold valG
  rw [take_getD _ _ _ (by decide), drop_getD, Nat.add_zero, if_neg (by omega), if_pos h]
  simp [List.drop_take, List.drop_drop]
theorem val0 {l : List UInt8} {p : Nat} (h1 : (l.getD p 0).toNat ≠ 1) (h2 : (l.getD p 0).toNat ≠ 2) (h3 : (l.getD p 0).toNat ≠ 3) : valG ((l.drop p).take 1) = ⟨((l.getD p 0).toNat : Int), 0, ⟨#[]⟩⟩ := by
  unfold valG
  rw [take_getD _ _ _ (by decide), drop_getD, Nat.add_zero, if_neg h1, if_neg h2, if_neg h3]
theorem scan {l : List UInt8} {p q : Nat} (h3 : (l.getD p 0).toNat = 3) (hp : p < l.length) (hz : ∀ i, i < q → l.getD (p + 1 + i) 0 ≠ 0) :
    (p + 1 + q = l.length → szG (l.drop p) = (l.drop p).length + 1) ∧
    (p + 1 + q < l.length → l.getD (p + 1 + q) 0 = 0 → szG (l.drop p) = q + 2 ∧ valG ((l.drop p).take (q + 2)) = ⟨3, 0, ⟨((l.drop (p + 1)).take q).toArray⟩⟩) := by
  have hd : l.drop p = l.getD p 0 :: l.drop (p + 1) := by
    rw [List.drop_eq_getElem_cons hp]
    simp [List.getD_eq_getElem?_getD, hp]
  have hnz : ∀ x ∈ (l.drop (p + 1)).take q, x ≠ 0 := by
    intro x hx
    obtain ⟨i, hi⟩ := List.mem_iff_getElem?.1 hx
    have hl := (List.getElem?_eq_some_iff.1 hi).1
    have hiq : i < q := by simp at hl; omega
    have e := hz i hiq
    rw [List.getElem?_take, if_pos hiq, List.getElem?_drop] at hi
    rw [List.getD_eq_getElem?_getD, hi] at e
    exact e
  have h0 : l.getD p 0 ≠ 0 := fun e => by rw [e] at h3; cases h3
  refine ⟨fun e => ?_, fun e ez => ?_⟩
  · have hall : (l.drop (p + 1)).take q = l.drop (p + 1) := List.take_of_length_le (by simp; omega)
    rw [hall] at hnz
    have hneg : indexByte (l.drop p) 0 < 0 := by
      rw [indexByte_zero_iff]
      intro i hi
      rw [drop_getD]
      rcases Nat.eq_zero_or_pos i with rfl | hpos
      · exact h0
      · have hi' : i < l.length - p := by simpa using hi
        have := hz (i - 1) (by omega)
        rwa [show p + 1 + (i - 1) = p + i by omega] at this
    unfold szG
    rw [drop_getD, Nat.add_zero, if_neg (by omega), if_neg (by omega), if_pos h3, if_pos hneg]
  · have hsp : l.drop (p + 1) = (l.drop (p + 1)).take q ++ 0 :: l.drop (p + 1 + q + 1) := by
      conv => lhs; rw [← List.take_append_drop q (l.drop (p + 1))]
      rw [List.drop_drop, List.drop_eq_getElem_cons e]
      have : l[p + 1 + q] = 0 := by
        have := ez
        simp [List.getD_eq_getElem?_getD, e] at this
        exact this
      rw [this]
    have hix : indexByte (l.drop p) 0 = ((q + 1 : Nat) : Int) := by
      rw [hd, hsp]
      have := idx_text (l.getD p 0 :: (l.drop (p + 1)).take q) (l.drop (p + 1 + q + 1)) (by
        intro hx
        rcases List.mem_cons.1 hx with hx | hx
        · exact h0 hx.symm
        · exact hnz 0 hx rfl)
      rw [List.cons_append] at this
      rw [this]
      simp; omega
    have hsz : szG (l.drop p) = q + 2 := by
      unfold szG
      rw [drop_getD, Nat.add_zero, if_neg (by omega), if_neg (by omega), if_pos h3, hix, if_neg (by omega)]
      omega
    refine ⟨hsz, ?_⟩
    unfold valG
    rw [take_getD _ _ _ (by omega), drop_getD, Nat.add_zero, if_neg (by omega), if_neg (by omega), if_pos h3]
    have hlen : ((l.drop p).take (q + 2)).length = q + 2 := by simp; omega
    have e2 : (((l.drop p).take (q + 2)).drop 1).take (((l.drop p).take (q + 2)).length - 2) = (l.drop (p + 1)).take q := by
      rw [hlen]
      simp [List.drop_take, List.drop_drop, List.take_take]
    rw [e2]

set_option maxHeartbeats 12800000 in
set_option maxRecDepth 100000 in
theorem runkey_any (v : Value) (l : List UInt8) (w : World) (h : RBp w w.heap.size v l) (hl : l.length ≤ 1000) : Calls Tryd.prog 10 #[v] w fun e w' => RUnPost (unG l.length [] l) w e w' := by
  obtain ⟨i0, hi, hz0, hz1, hz2⟩ := info_parts Tryd.infoV
  obtain ⟨U, hU⟩ : ∃ U, U = unG l.length [] l := ⟨_, rfl⟩
  rw [← hU]
  by_cases hne : l = []
  · subst hne
    obtain ⟨ba, bk, rfl, _⟩ := rb_len' h
    rw [unG_nil] at hU
    have HU := hide hU
    clear h hU
    go_enter Tryd.func10, Tryd.ntmps10
    go_wp2
    refine wp_loop_rounds 1 ?_
    rw [rounds_succ]
    go_wp2
    go_ret2
    refine ⟨Below.refl _ _, ?_⟩
    rw [unhide HU]
    exact ⟨none, 0, rfl, World.ownsRow_nil _ _ _ _⟩
  obtain ⟨b, off, cap, hbB, hcap, hm, rfl, hc⟩ := rb_some h hne
  have HC := hide hc
  have HRB := hide h
  have HU := hide hU
  have hlI : (l.length : Int) ≤ 1000 := by omega
  have hmI : (cap : Int) ≤ 9223372036854775807 := by unfold maxLen at hm; omega
  have hcI : (l.length : Int) ≤ (cap : Int) := by omega
  clear hc h hU hne
  go_enter Tryd.func10, Tryd.ntmps10
  go_wp2
  go_loopg [4, 5] l.length (fun g lv at' wr => ∃ (p : Nat) (done : List GV), p ≤ l.length ∧ g = l.length - p ∧ at' = .int .i64 p ∧ done.length ≤ 16 ∧ Hid (RU U l w p done lv wr))
  case atStart => exact ⟨0, [], by omega, by omega, rfl, by simp, unhide HU, World.ownsRow_nil _ _ _ _, Below.refl _ _⟩
  case round =>
    obtain ⟨p, done, hp, rfl, rfl, hd, HR⟩ := hrel
    obtain ⟨la, lk, rfl⟩ := own_is (unhide HR).2.1
    have hbw := (unhide HR).2.2
    have hpI : (p : Int) ≤ (l.length : Int) := by omega
    by_cases hlt : p < l.length
    · have hltI : (p : Int) < (l.length : Int) := by omega
      have c0 := (hbw.cell (p := ⟨b, off + p, none⟩) hbB).trans (unhide HC p hlt)
      have hcb : (l.getD p 0).toNat < 256 := UInt8.toNat_lt _
      obtain ⟨C, hC⟩ : ∃ C, (l.getD p 0).toNat = C := ⟨_, rfl⟩
      rw [hC] at c0 hcb
      have hcbI : (C : Int) < 256 := by omega
      have HCC := hide hC
      clear hC
      go_upto_block 2 with fail
      go_cut [5, 7, 8, 9] from 10 to 104 (fun s5 s7 s8 s9 wx => ∃ (z : Nat) (k n : Int) (t : ByteArray), s7 = s7 ∧ s8 = s8 ∧ s9 = s9 ∧ s5 = .int .i64 ((p + z : Nat) : Int) ∧ 1 ≤ z ∧ p + z ≤ l.length ∧ Hid (szG (l.drop p) = z ∧ valG ((l.drop p).take z) = ⟨k, n, t⟩ ∧ B3 wx wr.heap.size k n t ∧ Below wr.heap.size wr wx))
      case first =>
        have hbr : b < wr.heap.size := Nat.lt_of_lt_of_le hbB hbw.size
        have HCW : Hid (∀ W, Below wr.heap.size wr W → ∀ i, i < l.length → W.cell? ⟨b, off + i, none⟩ = some (.int .u8 ((l.getD i 0).toNat : Int))) := fun W hW i hi' => (hW.cell (p := ⟨b, off + i, none⟩) hbr).trans ((hbw.cell (p := ⟨b, off + i, none⟩) hbB).trans (unhide HC i hi'))
        have HN := hide (fun h => none_short (unhide HR).1 hlt h)
        have HBW := hide hbw
        have HRD := hide (rb_drop (at' := p + 1) hbB (by omega) hcap hm (by omega) (unhide HC))
        have HLT := hide hlt
        clear c0 HR HRB HC hbw
        by_cases h1 : C = 1
        · have z1 := sz1 ((unhide HCC).trans h1)
          have v1 := val1 ((unhide HCC).trans h1)
          subst h1
          by_cases he : p + 1 = l.length
          · have HX := hide (unhide HN (by rw [z1]; omega))
            have heI : ((p : Int) + 1 == (l.length : Int)) = true := by simp; omega
            clear z1 v1 HCW HN hlt he HRD
            as_aux_lemma =>
              go_wp2
              go_ret2
              exact run_no (unhide HX) (one_new' (unhide HBW) _)
          · have d1 := unhide HCW (wr.alloc (.cells #[.int .i64 1, .int .i64 0, .string ⟨#[]⟩] 42)) ((Below.refl _ _).alloc (Nat.le_refl _) _) (p + 1) (by omega)
            have heI : ((p : Int) + 1 == (l.length : Int)) = false := beq_eq_false_iff_ne.2 (by omega)
            have hlt1 : (p : Int) + 1 < (l.length : Int) := by omega
            have hdb : ((l.getD (p + 1) 0).toNat : Int) < 256 := by have := UInt8.toNat_lt (l.getD (p + 1) 0); omega
            generalize (l.getD (p + 1) 0).toNat = d at *
            have HZ := hide z1
            have HV := hide v1
            have HLE := hide (show p + 2 ≤ l.length by omega)
            clear z1 v1 HCW HN hlt he HRD
            as_aux_lemma =>
              go_wp2
              go_meet
              exact ⟨2, 1, (d : Int), ⟨#[]⟩, trivial, trivial, trivial, by go_num, by decide, unhide HLE, unhide HZ, unhide HV, B3.new wr wr.heap.size 1 (d : Int) ⟨#[]⟩ rfl, (Below.refl _ _).alloc (Nat.le_refl _) _⟩
        by_cases h2 : C = 2
        · have z2 := sz2 ((unhide HCC).trans h2)
          have v2 := val2 ((unhide HCC).trans h2)
          subst h2
          by_cases he : l.length < p + 9
          · have HX := hide (unhide HN (by rw [z2]; omega))
            have heI : (l.length : Int) < (p : Int) + 1 + 8 := by omega
            clear z2 v2 HCW HN hlt he HRD h1
            as_aux_lemma =>
              go_wp2
              go_ret2
              exact run_no (unhide HX) (one_new' (unhide HBW) _)
          · have heI : ((l.length : Int) < (p : Int) + 1 + 8) = False := by simp; omega
            have HD := hide (unhide HCW (wr.alloc (.cells #[.int .i64 2, .int .i64 0, .string ⟨#[]⟩] 42)) ((Below.refl _ _).alloc (Nat.le_refl _) _))
            have HZ := hide z2
            have HV := hide v2
            have HLE := hide (show p + 9 ≤ l.length by omega)
            have heJ : (p : Int) + 1 + 8 ≤ (l.length : Int) := by omega
            clear z2 v2 HCW HN hlt he HRD h1
            as_aux_lemma =>
              go_wp2
              go_loop [7, 8] (fun x i => ∃ q : Nat, q ≤ 8 ∧ i = .int .i64 q ∧ x = .int .u64 ((decN (((l.drop (p + 1)).take 8).take q) : Nat) : Int)) (fun _ i => 8 - (intOf i).toNat)
              case atStart => exact ⟨0, by omega, rfl, rfl⟩
              case round =>
                obtain ⟨q, hq, rfl, rfl⟩ := hrel
                by_cases hq8 : q < 8
                · have hle := unhide HLE
                  have c0 := unhide HD (p + 1 + q) (by omega)
                  obtain ⟨g, hg⟩ : ∃ g, ((l.drop (p + 1)).take 8)[q]? = some g := ⟨((l.drop (p + 1)).take 8)[q]'(by simp; omega), List.getElem?_eq_getElem _⟩
                  have hgd : l.getD (p + 1 + q) 0 = g := by
                    rw [List.getElem?_take, if_pos hq8, List.getElem?_drop] at hg
                    rw [List.getD_eq_getElem?_getD, hg]; rfl
                  rw [hgd] at c0
                  have HS := hide (decN_snoc _ q g hg)
                  have hp8 : decN (((l.drop (p + 1)).take 8).take q) < 72057594037927936 := by
                    have h1 := decN_lt (((l.drop (p + 1)).take 8).take q)
                    have h2 : (((l.drop (p + 1)).take 8).take q).length ≤ 7 := by simp; omega
                    exact Nat.lt_of_lt_of_le h1 (Nat.pow_le_pow_right (by decide) h2)
                  have hgl : (g.toNat : Int) < 256 := by have := UInt8.toNat_lt g; omega
                  generalize decN (((l.drop (p + 1)).take 8).take q) = X at *
                  have hX : (X : Int) < 72057594037927936 := by omega
                  generalize g.toNat = G at *
                  have hqI : (q : Int) < 8 := by omega
                  have hpq : (p : Int) + 1 + (q : Int) < (l.length : Int) := by omega
                  clear hg hgd hp8 hle
                  go_wp2
                  go_round
                  case rel => exact ⟨q + 1, by omega, by go_num, by rw [unhide HS, Int.natCast_add, Int.natCast_mul]; rfl⟩
                  case measure => simp [intOf]; omega
                · have hq9 : q = 8 := by omega
                  subst hq9
                  have ht : ((l.drop (p + 1)).take 8).take 8 = (l.drop (p + 1)).take 8 := by rw [List.take_take]; rfl
                  rw [ht]
                  have hd := decN_lt ((l.drop (p + 1)).take 8)
                  have hd8 : ((l.drop (p + 1)).take 8).length = 8 := by have := unhide HLE; simp; omega
                  rw [hd8] at hd
                  have hd' : decN ((l.drop (p + 1)).take 8) < 18446744073709551616 := hd
                  generalize decN ((l.drop (p + 1)).take 8) = D at *
                  have hw1 : IntKind.i64.wrap (IntKind.u64.wrap ((D : Int) - 9223372036854775808)) = (D : Int) - 9223372036854775808 := by rw [IntKind.wrap_u64, IntKind.wrap_i64]; omega
                  clear HD ht hd hd8
                  go_wp2
                  go_meet
                  exact ⟨9, 2, (D : Int) - 9223372036854775808, ⟨#[]⟩, trivial, trivial, trivial, by go_num, by decide, unhide HLE, unhide HZ, unhide HV, B3.new wr wr.heap.size 2 _ ⟨#[]⟩ rfl, (Below.refl _ _).alloc (Nat.le_refl _) _⟩
        by_cases h3 : C = 3
        · have h3' := (unhide HCC).trans h3
          subst h3
          have HD := hide (unhide HCW (wr.alloc (.cells #[.int .i64 3, .int .i64 0, .string ⟨#[]⟩] 42)) ((Below.refl _ _).alloc (Nat.le_refl _) _))
          have HSC := hide (fun (q : Nat) hz => scan (q := q) h3' hlt hz)
          have HRW : Hid (RBp (wr.alloc (.cells #[.int .i64 3, .int .i64 0, .string ⟨#[]⟩] 42)) w.heap.size (.slice (some ⟨b, off + (p + 1), none⟩) (l.length - (p + 1)) (cap - (p + 1))) (l.drop (p + 1))) := (unhide HRD).below (one_new' (unhide HBW) _) (Nat.le_refl _)
          clear h3' HCW hlt HRD h1 h2
          as_aux_lemma =>
            go_wp2
            go_loop [9] (fun i => ∃ q : Nat, p + 1 + q ≤ l.length ∧ i = .int .i64 ((p + 1 + q : Nat) : Int) ∧ Hid (∀ i, i < q → l.getD (p + 1 + i) 0 ≠ 0)) (fun i => l.length - (intOf i).toNat)
            case atStart => exact ⟨0, unhide HLT, by go_num, fun i hi' => absurd hi' (by omega)⟩
            case round =>
              obtain ⟨q, hq, rfl, HZq⟩ := hrel
              by_cases hql : p + 1 + q < l.length
              · have c0 := unhide HD (p + 1 + q) hql
                have hpq : ((p + 1 + q : Nat) : Int) < (l.length : Int) := by omega
                by_cases hz : l.getD (p + 1 + q) 0 = 0
                · have HE := hide ((unhide HSC q (unhide HZq)).2 hql hz)
                  rw [hz] at c0
                  have c1 : (wr.alloc (.cells #[.int .i64 3, .int .i64 0, .string ⟨#[]⟩] 42)).cell? ⟨b, off + (p + 1 + q), none⟩ = some (.int .u8 0) := c0
                  have hcv := conv_any _ w.heap.size ((l.drop (p + 1)).take q) _ (rb_first (n := q) (by have r := unhide HRW; simpa using r) (by simp; omega))
                  have hne : ((p + 1 + q : Nat) : Int) ≠ (l.length : Int) := by omega
                  have hneb : (((p + 1 + q : Nat) : Int) == (l.length : Int)) = false := beq_eq_false_iff_ne.2 hne
                  generalize ((l.drop (p + 1)).take q).toArray = ta at *
                  have HLQ := hide (show p + (q + 2) ≤ l.length by omega)
                  have hcp : cap ≠ p + 1 := by omega
                  have hpc : ((p + 1 + q : Nat) : Int) ≤ (cap : Int) := by omega
                  clear HD HSC HRW c0 hz HZq hne
                  go_wp2
                  go_meet
                  exact ⟨q + 2, 3, 0, ⟨ta⟩, trivial, trivial, trivial, by go_num, by omega, unhide HLQ, (unhide HE).1, (unhide HE).2, B3.new wr wr.heap.size 3 0 ⟨ta⟩ rfl, (Below.refl _ _).alloc (Nat.le_refl _) _⟩
                · have hzn : (((l.getD (p + 1 + q) 0).toNat : Int) != 0) = true := by
                    rw [bne_iff_ne]
                    intro e
                    exact hz (u8_eq (by simpa using e))
                  have HQ' : Hid (∀ i, i < q + 1 → l.getD (p + 1 + i) 0 ≠ 0) := fun i hi' => by
                    rcases Nat.lt_or_ge i q with h | h
                    · exact unhide HZq i h
                    · have : i = q := by omega
                      subst this; exact hz
                  have hgb : ((l.getD (p + 1 + q) 0).toNat : Int) < 256 := by have := UInt8.toNat_lt (l.getD (p + 1 + q) 0); omega
                  generalize (l.getD (p + 1 + q) 0).toNat = G at *
                  clear HD HSC HRW hz HZq
                  go_wp2
                  go_round
                  case rel => exact ⟨q + 1, by omega, by go_num, unhide HQ'⟩
                  case measure => simp [intOf]; omega
              · have hqe : p + 1 + q = l.length := by omega
                have HX := hide (unhide HN (by rw [(unhide HSC q (unhide HZq)).1 hqe]; simp))
                have hpq : (((p + 1 + q : Nat) : Int) < (l.length : Int)) = False := by simp; omega
                have hpe : (((p + 1 + q : Nat) : Int) == (l.length : Int)) = true := by rw [beq_iff_eq]; omega
                clear HD HSC HRW HZq hql
                go_wp2
                go_ret2
                exact run_no (unhide HX) (one_new' (unhide HBW) _)
        · have z0 := sz0 (by rw [unhide HCC]; exact h1) (by rw [unhide HCC]; exact h2) (by rw [unhide HCC]; exact h3)
          have v0 := val0 (l := l) (p := p) (by rw [unhide HCC]; exact h1) (by rw [unhide HCC]; exact h2) (by rw [unhide HCC]; exact h3)
          rw [unhide HCC] at v0
          have b1 : ((C : Int) == 1) = false := beq_eq_false_iff_ne.2 (by omega)
          have b2 : ((C : Int) == 2) = false := beq_eq_false_iff_ne.2 (by omega)
          have b3 : ((C : Int) == 3) = false := beq_eq_false_iff_ne.2 (by omega)
          have HZ := hide z0
          have HV := hide v0
          clear z0 v0 HCW HN hlt HRD h1 h2 h3
          as_aux_lemma =>
            go_wp2
            go_meet
            exact ⟨1, (C : Int), 0, ⟨#[]⟩, trivial, trivial, trivial, by go_num, by decide, unhide HLT, unhide HZ, unhide HV, B3.new wr wr.heap.size (C : Int) 0 ⟨#[]⟩ rfl, (Below.refl _ _).alloc (Nat.le_refl _) _⟩
      case rest =>
        obtain ⟨z, k, n, t, _, _, _, rfl, hz1', hzl, HH⟩ := hcut
        obtain ⟨hsz, hval, hB3, hbc⟩ := unhide HH
        have hne := drop_ne hlt
        have hok : GV.ok ⟨k, n, t⟩ := by
          rw [← hval]
          refine val_ok (by simp; omega) ?_
          rw [← hsz]
          exact fit_take (by rw [hsz]; simp; omega)
        have HI := hide (refIs_any ⟨k, n, t⟩ wc hok)
        have HU0 := hide (unhide HR).1
        have hown := own_later (unhide HR).2.1 hbc
        have Qc := hide (one_step hbw hbc)
        have HBC := hide hB3
        obtain ⟨e0, e1, e2, _, _, _⟩ := hB3
        have hszw : w.heap.size ≤ wc.heap.size := (unhide Qc).size
        have hdI : (done.length : Int) ≤ 16 := by omega
        cases hgm : GV.may ⟨k, n, t⟩ with
        | false =>
          rw [hgm] at HI
          rw [GV.agg_eq] at HI
          have HX := hide ((unhide HU0).trans (un_none hne (.inr (.inr (by rw [hsz, hval]; exact hgm)))))
          clear HU0 HH hsz hval hok HR HC HRB hown hbc hbw hgm hne HBC c0 HCC
          as_aux_lemma =>
            go_wp2_with (first | (go_at_call 21; refine (unhide HI).mono ?_; clear HI; rintro e w1 ⟨rfl, rfl⟩))
            go_ret2
            exact run_no (unhide HX) (one_new' (unhide Qc) _)
        | true =>
          rw [hgm] at HI
          rw [GV.agg_eq] at HI
          by_cases h16 : done.length = 16
          · have HX := hide ((unhide HU0).trans (un_none hne (.inr (.inl h16))))
            have h16b : ((done.length : Int) == 16) = true := by rw [beq_iff_eq]; omega
            clear HU0 HH hsz hval hok HR HC HRB hown hbc hbw hgm hne HBC c0 HCC h16
            as_aux_lemma =>
              go_wp2_with (first | (go_at_call 21; refine (unhide HI).mono ?_; clear HI; rintro e w1 ⟨rfl, rfl⟩))
              go_ret2
              exact run_no (unhide HX) (one_new' (unhide Qc) _)
          · have h16b : ((done.length : Int) == 16) = false := beq_eq_false_iff_ne.2 (by omega)
            have hst := (unhide HU0).trans (un_step hne (by rw [hsz]; simp; omega) h16 (by rw [hsz, hval]; exact hgm))
            rw [hsz, hval, List.drop_drop] at hst
            have HST := hide hst
            have HG3 := hide (three_cell ⟨k, n, t⟩)
            have HGN := hide (three_new' (wc.alloc (.cells #[.int .i64 k, .int .i64 n, .string t] 42)) ⟨k, n, t⟩ 42 (b := wc.heap.size + 1) (by simp))
            have HSN := hide (gvsCells_snoc done ⟨k, n, t⟩)
            have ho2 := (hown.alloc (.cells #[.int .i64 k, .int .i64 n, .string t] 42)).alloc (.cells #[.int .i64 k, .int .i64 n, .string t] 42)
            obtain ⟨f0, f1, f2, _, _, _⟩ := (unhide HBC).alloc (.cells #[.int .i64 k, .int .i64 n, .string t] 42)
            have HZP := hide (And.intro hz1' hzl)
            clear HU0 HH hsz hval hok HR HC HRB hown hbc hbw hgm hne HBC c0 HCC hst
            dsimp only at HGN
            as_aux_lemma =>
              go_wp2_with (first
                | (go_at_call 21; refine (unhide HI).mono ?_; clear HI; rintro e w1 ⟨rfl, rfl⟩)
                | (at_builtin; refine wpList_append_own _ rfl (.tmp 101) (.tmp 103) 22 rfl w.heap.size 42 i0 _ 3 32 Tryd.underlying22 hi hz0 hz1 hz2 rfl (by decide) _ _ _ rfl ho2 ⟨wc.heap.size + 1, 0, none⟩ 1 1 (gvCells ⟨k, n, t⟩) rfl rfl (unhide HGN) (unhide HG3) (by unfold maxLen; omega) (by omega) (by simp; omega) ?_))
              intro v3 w3 ho3 hg3 _
              have Q3 := hide ((one_new' (one_new' (unhide Qc) (.cells #[.int .i64 k, .int .i64 n, .string t] 42)) (.cells #[.int .i64 k, .int .i64 n, .string t] 42)).grown hg3 (by simp; omega) (own_block_ge ho2))
              clear hg3 ho2
              go_wp2
              go_roundg (l.length - (p + z))
              case rel => exact ⟨p + z, done ++ [⟨k, n, t⟩], (unhide HZP).2, rfl, rfl, by simp; omega, unhide HST, by rw [unhide HSN, List.length_append]; exact ho3, unhide Q3⟩
              case measure => have := unhide HZP; omega
    · have hpe : p = l.length := by omega
      subst hpe
      have hU1 := (unhide HR).1
      rw [List.drop_length, unG_nil] at hU1
      have HX := hide hU1
      have HO := hide (unhide HR).2.1
      have HB := hide hbw
      clear hU1 HR HC HRB hbw
      go_wp2
      go_ret2
      refine ⟨unhide HB, ?_⟩
      rw [unhide HX]
      exact ⟨la, lk, rfl, unhide HO⟩
end Go.Proofs.YtobonbjeejbhoaaDoor
