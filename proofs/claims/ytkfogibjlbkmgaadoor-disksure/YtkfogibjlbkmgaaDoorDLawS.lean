/- DiskSure: what was synced stays, and then as much as the crash keeps. -/
import Derived.Test.YtkfogibjlbkmgaaDoorDSure
namespace Go.Proofs.YtkfogibjlbkmgaaDoor
open Go.RowKit Go.Lib Go.Maps

/-- Cells that came in. -/
def InB (w : World) (a : Option Addr) (l : List UInt8) : Prop := ∀ i, i < l.length → ∃ b off, a = some ⟨b, off, none⟩ ∧ b < w.heap.size ∧ w.cell? ⟨b, off + i, none⟩ = some (.int .u8 ((l.getD i 0).toNat : Int))
def InK (w : World) (a : Option Addr) (ks : List Int) : Prop := (∀ x ∈ ks, -32768 ≤ x ∧ x ≤ 32767) ∧ ∀ i, i < ks.length → ∃ b off, a = some ⟨b, off, none⟩ ∧ b < w.heap.size ∧ w.cell? ⟨b, off + i, none⟩ = some (.int .i16 (ks.getD i 0))
/-- Ahead of round j. -/
def RS2 (w wr : World) (p : Nat) (v : Value) (A : List UInt8) (su : Nat) (j : Nat) : Prop := ∃ c m, c ≤ j ∧ A.length ≤ 2 * j ∧ SureAt w wr p v A su c m

set_option maxHeartbeats 6400000 in
set_option maxRecDepth 100000 in
theorem sure_law (w : World) (hE : ET w) (la ka : Option Addr) (l : List UInt8) (ks : List Int) (lc kc : Nat) (hl : InB w la l) (hk : InK w ka ks) (hlm : l.length ≤ maxLen) (hkm : ks.length ≤ maxLen) :
    Calls Tryd.prog 4 #[.slice la l.length lc, .slice ka ks.length kc] w fun e w' => e = .returned (.bool true) ∧ Below w.heap.size w w' := by
  have HK := hide (known_any w hE)
  have hlm' : (l.length : Int) ≤ 9223372036854775807 := by unfold maxLen at hlm; omega
  have hkm' : (ks.length : Int) ≤ 9223372036854775807 := by unfold maxLen at hkm; omega
  clear hlm hkm
  by_cases h60 : (60 : Int) < (l.length : Int)
  · clear hl hk hE
    go_enter Tryd.func4, Tryd.ntmps4
    go_wp2_with (first
      | (go_at_call 6; refine (unhide HK).mono ?_; rintro e w1 ⟨rfl, hb1⟩))
    go_ret
    exact ⟨rfl, hb1⟩
  by_cases k60 : (60 : Int) < (ks.length : Int)
  · clear hl hk hE
    go_enter Tryd.func4, Tryd.ntmps4
    go_wp2_with (first
      | (go_at_call 6; refine (unhide HK).mono ?_; rintro e w1 ⟨rfl, hb1⟩))
    go_ret
    exact ⟨rfl, hb1⟩
  have H2 : Hid (∀ w1 w2, Below w.heap.size w w1 → DX w2 w1.heap.size ⟨65536, 0, false, false, 0⟩ [] (fun k => k = w1.heap.size) → Below w1.heap.size w1 w2 → RS2 w w2 w1.heap.size (.slice none 0 0) [] 0 0) := by
    intro w1 w2 hb1 hd hb2
    exact ⟨0, false, Nat.le_refl _, Nat.le_refl _, ⟨⟨_, hd, fun k hk => by have := hb1.size; omega, World.ownsRow_nil _ _ _ _, fun k hk => by simp [Value.ownBlock] at hk, (FrB.of_below hb1).trans (FrB.of_below hb2)⟩, Nat.le_refl _, fun _ => ⟨rfl, rfl⟩⟩⟩
  have TT : Hid (∀ wr p v A su c, SureAt w wr p v A su c true → A.length ≤ 200 → Calls Tryd.prog 31 #[.pointer (some ⟨p, 0, none⟩), .string sF] wr fun e w' =>
      ∃ a' k', e = .returned (.tuple #[.slice a' A.length k', .nilIface]) ∧ Hid (SureAt w w' p v A su c true) ∧ Hid (Calls Tryd.prog 33 #[.slice a' A.length k', v] w' fun e w'' => e = .returned (.bool true) ∧ w'' = w')) := by
    intro wr p v A su c hS hA
    refine (sure_read hS hE).mono ?_
    rintro e w' ⟨hS', ⟨_, v', rfl, hr⟩ | ⟨hm, _⟩⟩
    · obtain ⟨a', k', rfl⟩ := own_sl hr
      refine ⟨a', k', rfl, hS', ?_⟩
      obtain ⟨O, _, _, hr', _⟩ := hS'.at'
      exact bytes_rows hr hr' (by omega)
    · cases hm
  have TF : Hid (∀ wr p v su c, SureAt w wr p v [] su c false → Calls Tryd.prog 31 #[.pointer (some ⟨p, 0, none⟩), .string sF] wr fun e w' =>
      ∃ b, e = .returned (.tuple #[.slice none 0 0, evW b]) ∧ Hid (Calls Tryd.prog 24 #[evW b] w' fun e w'' => e = .returned (.int .i64 30) ∧ Hid (SureAt w w'' p v [] su c false) ∧ Hid (Calls Tryd.prog 33 #[.slice none 0 0, v] w'' fun e w3 => e = .returned (.bool true) ∧ w3 = w''))) := by
    intro wr p v su c hS
    refine (sure_read hS hE).mono ?_
    rintro e w' ⟨hS', ⟨hm, _⟩ | ⟨_, _, b, rfl, he⟩⟩
    · cases hm
    · refine ⟨b, rfl, ?_⟩
      refine (class_at b 30 w' (hS'.at'.et hE) he).mono ?_
      rintro e w'' ⟨rfl, hb⟩
      have hS2 := hS'.fr hb
      refine ⟨rfl, hS2, ?_⟩
      obtain ⟨O, _, _, hr', _⟩ := hS2.at'
      exact bytes_rows (l := []) (World.ownsRow_nil _ 0 _ _) hr' (by decide)
  have HL := hide hl
  have HKS := hide hk
  have HE := hide hE
  have hl60 : l.length ≤ 60 := by omega
  clear hl hk hE
  go_enter Tryd.func4, Tryd.ntmps4
  go_wp2_with (first
    | (go_at_call 6; refine (unhide HK).mono ?_; rintro e w1 ⟨rfl, hb1⟩)
    | (go_at_call 7; refine (dx_new w1 65536 (by decide)).mono ?_; rintro e w2 ⟨rfl, hd2, hb2⟩; have R2 := hide (unhide H2 w1 w2 hb1 hd2 hb2); clear hd2 hb2))
  go_loopw [6, 7, 8, 9] (fun va vs vf i wr => ∃ (j fa su : Nat) (A : List UInt8) (a : Option Addr) (cp : Nat), j ≤ l.length ∧ i = .int .i64 j ∧ fa ≤ j ∧ vf = .int .i64 fa ∧ vs = .int .i64 su ∧ va = .slice a A.length cp ∧ su ≤ A.length ∧ A.length ≤ 2 * j ∧ Hid (RS2 w wr w1.heap.size (.slice a A.length cp) A su j)) (fun _ _ _ i _ => l.length - (intOf i).toNat)
  case atStart => exact ⟨0, 0, 0, [], none, 0, by omega, rfl, Nat.le_refl _, rfl, rfl, rfl, Nat.le_refl _, Nat.le_refl _, unhide R2⟩
  case round =>
    obtain ⟨j, fa, su, A, a, cp, hj, rfl, hfa, rfl, rfl, rfl, hsu, hAj, hrl⟩ := hrel
    by_cases hlt : j < l.length
    · obtain ⟨lb, lo, rfl, hlb, hlc⟩ := unhide HL j hlt
      obtain ⟨c, m, hcj, hAl, hS⟩ := unhide hrl
      clear hrl
      have hji : (j : Int) < (l.length : Int) := by omega
      have hcell : wr.cell? ⟨lb, lo + j, none⟩ = some (.int .u8 ((l.getD j 0).toNat : Int)) := (cell_same (hS.at'.env.blk lb hlb hlb) _).trans hlc
      obtain ⟨x, hx⟩ : ∃ x, l.getD j 0 = x := ⟨_, rfl⟩
      rw [hx] at hcell
      have hxb : x.toNat < 256 := x.toNat_lt
      obtain ⟨y, hy⟩ : ∃ y : UInt8, (j : Int) % 256 = (y.toNat : Int) := ⟨UInt8.ofNat j, by simp⟩
      have hwj : IntKind.u8.wrap (j : Int) = (y.toNat : Int) := by
        rw [← hy, IntKind.wrap_u8] <;> omega
      have h5 : ((x.toNat : Int) % 5 = 0 ∨ (x.toNat : Int) % 5 = 1 ∨ (x.toNat : Int) % 5 = 2) ∨ (x.toNat : Int) % 5 = 3 ∨ (x.toNat : Int) % 5 = 4 := by omega
      have HC : Hid (∀ w', FrB w.heap.size w w' → w'.cell? ⟨lb, lo + j, none⟩ = some (.int .u8 (x.toNat : Int))) := fun w' hf => by
        rw [← hx]; exact (cell_same (hf.blk lb hlb hlb) _).trans hlc
      clear hlc hx HK H2
      rcases h5 with h5 | h5 | h5
      · have PA := hide (sure_append hS (unhide HE) x y (by omega) (by omega))
        have hsuA := hS.sure
        have HG : Hid (∀ w3 w4 v4, SureO w w3 w1.heap.size (.slice a A.length cp) A [fl [102] (A ++ [x, y]) su] (c + 1) → w4.ownsRow 0 5 1 v4 (A.length + ([x, y] : List UInt8).length) (byteCells A ++ byteCells [x, y]) → (w3.alloc (.cells #[.int .u8 (x.toNat : Int), .int .u8 (y.toNat : Int)] 5)).grownBy w4 (Value.slice a A.length cp).ownBlock →
            (v4.ownBlock = (Value.slice a A.length cp).ownBlock ∨ v4.ownBlock = some (w3.alloc (.cells #[.int .u8 (x.toNat : Int), .int .u8 (y.toNat : Int)] 5)).heap.size) → ∃ A2 a4 k4, A2.length ≤ A.length + 2 ∧ v4 = .slice a4 A2.length k4 ∧ SureAt w w4 w1.heap.size (.slice a4 A2.length k4) A2 su (c + 1) true) := by
          intro w3 w4 v4 h3 hrow hg hloc
          have h4 := sure_grow h3 hsuA ((Below.refl _ _).alloc (Nat.le_refl _) _) hrow hg hloc
          obtain ⟨O, _, _, hr, _⟩ := h4.at'
          obtain ⟨a4, k4, rfl⟩ := own_sl hr
          exact ⟨A ++ [x, y], a4, k4, by simp, rfl, h4⟩
        have HRow : Hid (∀ w3, SureO w w3 w1.heap.size (.slice a A.length cp) A [fl [102] (A ++ [x, y]) su] (c + 1) → (w3.alloc (.cells #[.int .u8 (x.toNat : Int), .int .u8 (y.toNat : Int)] 5)).ownsRow 0 5 1 (.slice a A.length cp) A.length (byteCells A)) := by
          intro w3 h3
          obtain ⟨O, _, _, hr, _⟩ := h3
          exact ownsRow_base0 (ownsRow_of_same hr (fun k hk => Below.heap_alloc _ _ k (row_blk hr hk).2))
        clear hS
        rcases h5 with h5 | h5 | h5
        all_goals
          go_wp2_with (first
            | (go_at_call 9; refine (unhide PA).mono ?_; rintro e w3 ⟨rfl, hS3⟩; have c3 := unhide HC w3 hS3.env; have R3 := hide hS3; have hz3 := hide (unhide HRow w3 hS3); clear hS3)
            | (at_builtin; refine wpList_append_at rfl _ _ rfl (.slice a A.length cp) A.length (byteCells A) rfl (unhide hz3) (fun _ => False) (.slice (some ⟨w3.heap.size, 0, none⟩) 2 2) [x, y] rfl (rbo_two w3 x y _ (fun _ hh => hh.elim)) (by omega) ?_; intro v4 w4 hrow4 hg4 hloc4; obtain ⟨A2, a4, k4, hA2, rfl, hS4⟩ := unhide HG w3 w4 v4 (unhide R3) hrow4 hg4 hloc4; have P4 := hide (unhide TT w4 _ _ A2 su (c + 1) hS4 (by omega)); have hsu4 := hS4.sure; clear hS4 hrow4 hg4 hloc4)
            | (go_at_call 31; refine (unhide P4).mono ?_; rintro e w5 ⟨a5, k5, rfl, hS5, hB5⟩)
            | (go_at_call 33; refine (unhide hB5).mono ?_; rintro e w6 ⟨rfl, rfl⟩))
          go_roundw
          case rel => exact ⟨j + 1, fa, su, A2, a4, k4, by omega, by go_num, by omega, rfl, rfl, rfl, hsu4, by omega, ⟨c + 1, true, by omega, by omega, unhide hS5⟩⟩
          case measure => simp [intOf]; omega
      · cases m with
        | true =>
          have PS : Hid (Calls Tryd.prog 12 #[.pointer (some ⟨w1.heap.size, 0, none⟩), .string sF] wr fun e w' => e = .returned .nilIface ∧ Hid (SureAt w w' w1.heap.size (.slice a A.length cp) A A.length (c + 1) true)) := by
            refine (sure_sync hS (unhide HE) (by omega)).mono ?_
            rintro e w' (⟨_, he, h⟩ | ⟨hm, _⟩)
            · exact ⟨he, h⟩
            · cases hm
          clear hS
          go_wp2_with (first
            | (go_at_call 12; refine (unhide PS).mono ?_; rintro e w3 ⟨rfl, hS3⟩; have P4 := hide (unhide TT w3 _ _ A _ _ (unhide hS3) (by omega)))
            | (go_at_call 31; refine (unhide P4).mono ?_; rintro e w5 ⟨a5, k5, rfl, hS5, hB5⟩)
            | (go_at_call 33; refine (unhide hB5).mono ?_; rintro e w6 ⟨rfl, rfl⟩))
          go_roundw
          case rel => exact ⟨j + 1, fa, A.length, A, a, cp, by omega, by go_num, by omega, rfl, rfl, rfl, Nat.le_refl _, by omega, ⟨c + 1, true, by omega, by omega, unhide hS5⟩⟩
          case measure => simp [intOf]; omega
        | false =>
          obtain ⟨rfl, rfl⟩ := hS.none rfl
          have PS : Hid (Calls Tryd.prog 12 #[.pointer (some ⟨w1.heap.size, 0, none⟩), .string sF] wr fun e w' => ∃ b, e = .returned (evW b) ∧ Hid (Calls Tryd.prog 24 #[evW b] w' fun e w'' => e = .returned (.int .i64 30) ∧ Hid (SureAt w w'' w1.heap.size (.slice a 0 cp) [] 0 c false))) := by
            refine (sure_sync hS (unhide HE) (by omega)).mono ?_
            rintro e w' (⟨hm, _⟩ | ⟨_, _, ⟨b, he, hw⟩, h⟩)
            · cases hm
            · refine ⟨b, he, ?_⟩
              refine (class_at b 30 w' (h.at'.et (unhide HE)) hw).mono ?_
              rintro e w'' ⟨rfl, hb⟩
              exact ⟨rfl, h.fr hb⟩
          clear hS
          go_wp2_with (first
            | (go_at_call 12; refine (unhide PS).mono ?_; clear PS; rintro e w3 ⟨b3, rfl, PC3⟩)
            | (go_at_call 24; refine (unhide PC3).mono ?_; clear PC3; rintro e w4 ⟨rfl, hS4⟩; have P4 := hide (unhide TF w4 _ _ _ _ (unhide hS4)))
            | (go_at_call 31; refine (unhide P4).mono ?_; rintro e w5 ⟨b5, rfl, PC5⟩)
            | (go_at_call 24; refine (unhide PC5).mono ?_; rintro e w6 ⟨rfl, hS6, hB6⟩)
            | (go_at_call 33; refine (unhide hB6).mono ?_; rintro e w7 ⟨rfl, rfl⟩))
          go_roundw
          case rel => exact ⟨j + 1, fa, 0, [], a, cp, by omega, by go_num, by omega, rfl, rfl, rfl, Nat.le_refl _, by simp, ⟨c, false, by omega, by simp, unhide hS6⟩⟩
          case measure => simp [intOf]; omega
      · obtain ⟨kv, hkv, hkb⟩ : ∃ kv : Int, (kv = if fa < ks.length then ks.getD fa 0 else 0) ∧ (-32768 ≤ kv ∧ kv ≤ 32767) := by
          refine ⟨_, rfl, ?_⟩
          split
          · rename_i h
            have := (unhide HKS).1 (ks[fa]) (List.getElem_mem h)
            rw [List.getD_eq_getElem?_getD, List.getElem?_eq_getElem h]
            exact this
          · omega
        cases m with
        | false =>
          obtain ⟨rfl, rfl⟩ := hS.none rfl
          have PC : Hid (Calls Tryd.prog 22 #[.pointer (some ⟨w1.heap.size, 0, none⟩), .agg #[.slice (some ⟨wr.heap.size, 0, none⟩) 1 1]] (wr.alloc (.cells #[.int .i64 kv] 3)) fun e w' =>
              e = .returned (.tuple #[]) ∧ Hid (SureAt w w' w1.heap.size (.slice a 0 cp) [] 0 c false)) := by
            refine (sure_crash hS kv (by omega)).mono ?_
            have hL : leftK [] 0 kv = 0 := by unfold leftK; simp
            rw [hL]
            rintro e w' ⟨rfl, h⟩
            exact ⟨rfl, sure_cut h (Nat.le_refl _) (fun _ => rfl)⟩
          have hsl : a = none ∨ ∃ g, a = some ⟨g, 0, none⟩ := by
            obtain ⟨O, _, _, hr, _⟩ := hS.at'
            rcases hr.2 with ⟨e1, e2⟩ | ⟨g, cap, cur, e1, _, _, h1, h2, _⟩
            · injection e1 with h1 h2 h3; exact .inl h1
            · injection e1 with h1 h2 h3; exact .inr ⟨g, h1⟩
          have hwk : IntKind.i64.wrap kv = kv := by rw [IntKind.wrap_i64] <;> omega
          have hmx : max (0 : Int) (min kv 0) = 0 := by omega
          have hfr := hS.at'.env
          clear hS
          have kcell : fa < ks.length → ∃ kb ko, ka = some ⟨kb, ko, none⟩ ∧ wr.cell? ⟨kb, ko + fa, none⟩ = some (.int .i16 kv) := fun h => by
            obtain ⟨kb, ko, e1, hb, hc⟩ := (unhide HKS).2 fa h
            rw [if_pos h] at hkv
            exact ⟨kb, ko, e1, by rw [hkv]; exact (cell_same (hfr.blk kb hb hb) _).trans hc⟩
          by_cases hfk : fa < ks.length
          · obtain ⟨kb, ko, rfl, hkc⟩ := kcell hfk
            have hfk' : (fa : Int) < (ks.length : Int) := by omega
            clear kcell hkv hfr
            rcases hsl with rfl | ⟨g, rfl⟩
            all_goals
              go_wp2_with (first
                | (go_at_call 22; refine (unhide PC).mono ?_; rintro e w3 ⟨rfl, hS3⟩; have P4 := hide (unhide TF w3 _ _ _ _ (unhide hS3)))
                | (go_at_call 31; refine (unhide P4).mono ?_; rintro e w5 ⟨b5, rfl, PC5⟩)
                | (go_at_call 24; refine (unhide PC5).mono ?_; rintro e w6 ⟨rfl, hS6, hB6⟩)
                | (go_at_call 33; refine (unhide hB6).mono ?_; rintro e w7 ⟨rfl, rfl⟩))
              go_roundw
              case rel => exact ⟨j + 1, fa + 1, 0, [], _, cp, by omega, by go_num, by omega, by go_num, rfl, rfl, Nat.le_refl _, by simp, ⟨c, false, by omega, by simp, unhide hS6⟩⟩
              case measure => simp [intOf]; omega
          · rw [if_neg hfk] at hkv
            subst hkv
            have hfk' : ¬ (fa : Int) < (ks.length : Int) := by omega
            clear kcell hfr
            rcases hsl with rfl | ⟨g, rfl⟩
            all_goals
              go_wp2_with (first
                | (go_at_call 22; refine (unhide PC).mono ?_; rintro e w3 ⟨rfl, hS3⟩; have P4 := hide (unhide TF w3 _ _ _ _ (unhide hS3)))
                | (go_at_call 31; refine (unhide P4).mono ?_; rintro e w5 ⟨b5, rfl, PC5⟩)
                | (go_at_call 24; refine (unhide PC5).mono ?_; rintro e w6 ⟨rfl, hS6, hB6⟩)
                | (go_at_call 33; refine (unhide hB6).mono ?_; rintro e w7 ⟨rfl, rfl⟩))
              go_roundw
              case rel => exact ⟨j + 1, fa + 1, 0, [], _, cp, by omega, by go_num, by omega, by go_num, rfl, rfl, Nat.le_refl _, by simp, ⟨c, false, by omega, by simp, unhide hS6⟩⟩
              case measure => simp [intOf]; omega
        | true =>
          obtain ⟨N, hN⟩ : ∃ N, leftK A su kv = N := ⟨_, rfl⟩
          have hNA : N ≤ A.length := by unfold leftK at hN; omega
          have hNe : (su : Int) + max 0 (min kv ((A.length : Int) - (su : Int))) = (N : Int) := by unfold leftK at hN; omega
          have hm0 : true = false → N = 0 := fun hm => by
            obtain ⟨rfl, rfl⟩ := hS.none hm
            simpa using hNA
          have PC : Hid (Calls Tryd.prog 22 #[.pointer (some ⟨w1.heap.size, 0, none⟩), .agg #[.slice (some ⟨wr.heap.size, 0, none⟩) 1 1]] (wr.alloc (.cells #[.int .i64 kv] 3)) fun e w' =>
              e = .returned (.tuple #[]) ∧ ∃ A', Hid (A'.length = N) ∧ Hid (SureAt w w' w1.heap.size (.slice a N cp) A' N c true) ∧ Hid (true = false → A' = [])) := by
            refine (sure_crash hS kv (by omega)).mono ?_
            rw [hN]
            rintro e w' ⟨rfl, h⟩
            exact ⟨rfl, A.take N, by show (A.take N).length = N; rw [List.length_take]; omega, sure_cut h hNA hm0, fun hm => by rw [hm0 hm]; rfl⟩
          have hsl : (a = none ∨ ∃ g, a = some ⟨g, 0, none⟩) ∧ N ≤ cp := by
            obtain ⟨O, _, _, hr, _⟩ := hS.at'
            rcases hr.2 with ⟨e1, e2⟩ | ⟨g, cap, cur, e1, _, _, h1, h2, _⟩
            · injection e1 with h1 h2 h3; exact ⟨.inl h1, by omega⟩
            · injection e1 with h1 h2 h3; exact ⟨.inr ⟨g, h1⟩, by omega⟩
          obtain ⟨hsl, hNc⟩ := hsl
          have hNc' : (N : Int) ≤ (cp : Int) := by omega
          have hwk : IntKind.i64.wrap kv = kv := by rw [IntKind.wrap_i64] <;> omega
          have hw0 : IntKind.i64.wrap ((A.length : Int) - (su : Int)) = (A.length : Int) - (su : Int) := by rw [IntKind.wrap_i64] <;> omega
          have hw1 : IntKind.i64.wrap ((su : Int) + max 0 (min kv ((A.length : Int) - (su : Int)))) = (N : Int) := by rw [hNe, IntKind.wrap_i64] <;> omega
          have hN0 : (0 : Int) ≤ (N : Int) := by omega
          have hfr := hS.at'.env
          clear hS
          have kcell : fa < ks.length → ∃ kb ko, ka = some ⟨kb, ko, none⟩ ∧ wr.cell? ⟨kb, ko + fa, none⟩ = some (.int .i16 kv) := fun h => by
            obtain ⟨kb, ko, e1, hb, hc⟩ := (unhide HKS).2 fa h
            rw [if_pos h] at hkv
            exact ⟨kb, ko, e1, by rw [hkv]; exact (cell_same (hfr.blk kb hb hb) _).trans hc⟩
          clear hm0
          by_cases hfk : fa < ks.length
          · obtain ⟨kb, ko, rfl, hkc⟩ := kcell hfk
            have hfk' : (fa : Int) < (ks.length : Int) := by omega
            clear kcell hkv hfr hN hNe
            rcases hsl with rfl | ⟨g, rfl⟩
            all_goals
              go_wp2_with (first
                | (go_at_call 22; refine (unhide PC).mono ?_; rintro e w3 ⟨rfl, A', hl3, hS3, hm3⟩; have P4 := hide (unhide TT w3 _ _ A' _ _ (unhide hS3) (by have := unhide hl3; omega)))
                | (go_at_call 31; refine (unhide P4).mono ?_; rintro e w5 ⟨a5, k5, rfl, hS5, hB5⟩)
                | (go_at_call 33; refine (unhide hB5).mono ?_; rintro e w6 ⟨rfl, rfl⟩))
              go_roundw
              case rel =>
                have hl := unhide hl3
                exact ⟨j + 1, fa + 1, N, A', _, cp, by omega, by go_num, by omega, by go_num, rfl, by rw [hl], by omega, by omega, ⟨c, true, by omega, by omega, by rw [hl]; exact unhide hS5⟩⟩
              case measure => simp [intOf]; omega
          · rw [if_neg hfk] at hkv
            subst hkv
            have hfk' : ¬ (fa : Int) < (ks.length : Int) := by omega
            clear kcell hfr hN hNe
            rcases hsl with rfl | ⟨g, rfl⟩
            all_goals
              go_wp2_with (first
                | (go_at_call 22; refine (unhide PC).mono ?_; rintro e w3 ⟨rfl, A', hl3, hS3, hm3⟩; have P4 := hide (unhide TT w3 _ _ A' _ _ (unhide hS3) (by have := unhide hl3; omega)))
                | (go_at_call 31; refine (unhide P4).mono ?_; rintro e w5 ⟨a5, k5, rfl, hS5, hB5⟩)
                | (go_at_call 33; refine (unhide hB5).mono ?_; rintro e w6 ⟨rfl, rfl⟩))
              go_roundw
              case rel =>
                have hl := unhide hl3
                exact ⟨j + 1, fa + 1, N, A', _, cp, by omega, by go_num, by omega, by go_num, rfl, by rw [hl], by omega, by omega, ⟨c, true, by omega, by omega, by rw [hl]; exact unhide hS5⟩⟩
              case measure => simp [intOf]; omega
    · have hji : ¬ ((j : Int) < (l.length : Int)) := by omega
      obtain ⟨c, m, hcj, hAl, hS⟩ := unhide hrl
      have hf := hS.at'.env
      clear hS hrl
      go_wp2
      go_ret
      exact ⟨rfl, hf.below (Nat.le_refl _)⟩
end Go.Proofs.YtkfogibjlbkmgaaDoor
