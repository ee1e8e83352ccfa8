/- NetBag: its walk. -/
import Derived.Test.YtpepilcdlhkmkaaGreatDoorJNFullSNBagMNEq8
import Derived.Test.YtpepilcdlhkmkaaGreatDoorNFull
import Derived.Deep.LoopGhost
import Derived.Deep.QuietTactic
import Derived.BigQuiet
namespace Go.Proofs.YtpepilcdlhkmkaaGreatDoor
open Go.RowKit Go.Lib Go.Maps

/-- The net, its two rows of counts, and what holds of them. -/
structure BW (w0 w : World) (p b : Nat) (A : List (Int × Nat)) (S G : Nat → Nat) (k : Nat) : Prop where
  net : NS w0 w p A (fun x => x = b ∨ x = b + 1)
  sent : AR w b S
  gone : AR w (b + 1) G
  ok : BG A S G k
  low : w0.heap.size ≤ b
theorem BW.below {w0 w w' : World} {p b k : Nat} {A : List (Int × Nat)} {S G : Nat → Nat} (h : BW w0 w p b A S G k) (hb : Below w.heap.size w w') : BW w0 w' p b A S G k := by
  obtain ⟨h1, h2⟩ := h.net.below hb
  exact ⟨h1, h.sent.same (h2 b (.inl rfl)), h.gone.same (h2 (b + 1) (.inr rfl)), h.ok, h.low⟩
theorem BW.with {w0 w w' : World} {p b k k' : Nat} {A A' : List (Int × Nat)} {S G S' G' : Nat → Nat} (h : BW w0 w p b A S G k) (h1 : NS w0 w' p A' (fun x => x = b ∨ x = b + 1)) (h2 : AR w' b S') (h3 : AR w' (b + 1) G') (h4 : BG A' S' G' k') : BW w0 w' p b A' S' G' k' := ⟨h1, h2, h3, h4, h.low⟩
theorem up1_self (S : Nat → Nat) (j : Nat) : up1 S j j = S j + 1 := if_pos rfl
/-- A count goes up: of what was sent. -/
theorem BW.up {w0 w : World} {p b j : Nat} {A : List (Int × Nat)} {S G : Nat → Nat} (h1 : NS w0 w p A (fun x => x = b ∨ x = b + 1)) (h2 : AR w b S) (h3 : AR w (b + 1) G) (hl : w0.heap.size ≤ b) (hj : j < 8) :
    NS w0 (w.setCell ⟨b, j, none⟩ (.int .i64 ((S j : Int) + 1))) p A (fun x => x = b ∨ x = b + 1) ∧ AR (w.setCell ⟨b, j, none⟩ (.int .i64 ((S j : Int) + 1))) b (up1 S j) ∧ AR (w.setCell ⟨b, j, none⟩ (.int .i64 ((S j : Int) + 1))) (b + 1) G :=
  ⟨h1.set (b := b) (.inl rfl) hl _ _, h2.up hj, h3.other (by omega) _⟩
theorem BW.up' {w0 w : World} {p b j : Nat} {A : List (Int × Nat)} {S G : Nat → Nat} (h1 : NS w0 w p A (fun x => x = b ∨ x = b + 1)) (h2 : AR w b S) (h3 : AR w (b + 1) G) (hl : w0.heap.size ≤ b) (hj : j < 8) :
    NS w0 (w.setCell ⟨b + 1, j, none⟩ (.int .i64 ((G j : Int) + 1))) p A (fun x => x = b ∨ x = b + 1) ∧ AR (w.setCell ⟨b + 1, j, none⟩ (.int .i64 ((G j : Int) + 1))) b S ∧ AR (w.setCell ⟨b + 1, j, none⟩ (.int .i64 ((G j : Int) + 1))) (b + 1) (up1 G j) :=
  ⟨h1.set (b := b + 1) (.inr rfl) (by omega) _ _, h2.other (by omega) _, h3.up hj⟩

set_option maxHeartbeats 12800000 in
set_option maxRecDepth 100000 in
theorem bag_any (v : Value) (l : List UInt8) (w : World) (hE : ET w) (hv : RBu w w.heap.size v l) : Calls Tryz.prog 5 #[v] w fun e w' => e = .returned (.bool true) ∧ Below w.heap.size w w' := by
  obtain ⟨va, vk, rfl⟩ := hv.len
  have HK := hide (nknown_any w hE)
  have HE := hide hE
  have HV : Hid (∀ W, Below w.heap.size w W → ∀ i, i < l.length → ∃ b off, va = some ⟨b, off, none⟩ ∧ W.cell? ⟨b, off + i, none⟩ = some (.int .u8 ((l.getD i 0).toNat : Int))) := by
    intro W hb i hi
    rcases hv with ⟨_, rfl⟩ | ⟨b, off, cap, h1, h2, h3, h4, h5⟩
    · simp at hi
    · injection h4 with h4 _ _
      exact ⟨b, off, h4, (hb.cell (p := ⟨b, off + i, none⟩) h1).trans (h5 i hi)⟩
  clear hE hv
  by_cases h100 : 100 < l.length
  · have h100i : (100 : Int) < (l.length : Int) := by omega
    go_enter Tryz.func5, Tryz.ntmps5
    go_wp2_with (go_at_call 6; refine (unhide HK).mono ?_; clear HK; rintro e w1 ⟨rfl, hb1⟩; have Q1 := hide hb1; clear hb1)
    go_ret
    exact ⟨rfl, unhide Q1⟩
  have h100i : ¬ (100 : Int) < (l.length : Int) := by omega
  have hlen := hide (show l.length ≤ 100 by omega)
  clear h100
  go_enter Tryz.func5, Tryz.ntmps5
  go_wp2_with (first
    | (go_at_call 6; refine (unhide HK).mono ?_; clear HK; rintro e w1 ⟨rfl, hb1⟩; have Q1 := hide hb1; clear hb1; have HN := hide (ns_new w1))
    | (go_at_call 7; refine (unhide HN).mono ?_; clear HN; rintro e w2 ⟨rfl, h2⟩; have N2 := hide h2; clear h2))
  have HE1 := hide ((unhide HE).below (unhide Q1) (unhide HE).lt)
  have HV1 : Hid (∀ W, Below w1.heap.size w1 W → ∀ i, i < l.length → ∃ b off, va = some ⟨b, off, none⟩ ∧ W.cell? ⟨b, off + i, none⟩ = some (.int .u8 ((l.getD i 0).toNat : Int))) := fun W hb => unhide HV W (one_b (unhide Q1) hb)
  have B2 : Hid (BW w1 ((w2.alloc (.cells #[.int .i64 0, .int .i64 0, .int .i64 0, .int .i64 0, .int .i64 0, .int .i64 0, .int .i64 0, .int .i64 0] 53)).alloc (.cells #[.int .i64 0, .int .i64 0, .int .i64 0, .int .i64 0, .int .i64 0, .int .i64 0, .int .i64 0, .int .i64 0] 53)) w1.heap.size w2.heap.size [] (fun _ => 0) (fun _ => 0) 0) := by
    have hn := ((unhide N2).new (.cells #[.int .i64 0, .int .i64 0, .int .i64 0, .int .i64 0, .int .i64 0, .int .i64 0, .int .i64 0, .int .i64 0] 53)).new (.cells #[.int .i64 0, .int .i64 0, .int .i64 0, .int .i64 0, .int .i64 0, .int .i64 0, .int .i64 0, .int .i64 0] 53)
    rw [World.size_alloc] at hn
    refine ⟨hn.less (fun x hx => hx.elim (fun e => .inl (.inr e)) .inr), ?_, ?_, BG.start, (unhide N2).bel.size⟩
    · exact (Below.heap_alloc _ _ _ (by simp)).trans (MapKept.heap_alloc w2 _).1
    · have := (MapKept.heap_alloc (w2.alloc (.cells #[.int .i64 0, .int .i64 0, .int .i64 0, .int .i64 0, .int .i64 0, .int .i64 0, .int .i64 0, .int .i64 0] 53)) (.cells #[.int .i64 0, .int .i64 0, .int .i64 0, .int .i64 0, .int .i64 0, .int .i64 0, .int .i64 0, .int .i64 0] 53)).1
      rw [World.size_alloc] at this
      exact this
  clear HE HV N2
  go_loopw [6] (fun i wr => ∃ k : Nat, k ≤ l.length ∧ i = .int .i64 k ∧ Hid (∃ A S G, BW w1 wr w1.heap.size w2.heap.size A S G k)) (fun i _ => l.length - (intOf i).toNat)
  case atStart => exact ⟨0, by omega, rfl, ⟨_, _, _, unhide B2⟩⟩
  case round =>
    obtain ⟨k, hk, rfl, HB⟩ := hrel
    obtain ⟨A, S, G, hB⟩ := unhide HB
    clear HB B2
    by_cases hlt : k < l.length
    · obtain ⟨vb, off, rfl, c0⟩ := unhide HV1 wr hB.net.bel k hlt
      obtain ⟨x, hx⟩ : ∃ x : Nat, x = (l.getD k 0).toNat := ⟨_, rfl⟩
      have hx255 : x < 256 := by rw [hx]; exact UInt8.toNat_lt _
      rw [← hx] at c0
      clear hx
      have BR := hide hB
      have HL := hide (ns_len hB.net)
      have hA := hide hB.ok.many
      have hkk : k < 100 := by have := unhide hlen; omega
      clear hB
      obtain ⟨q, hq⟩ : ∃ q : Nat, (x : Int) / 4 = (q : Int) := ⟨x / 4, by omega⟩
      have hq64 : (q : Int) < 64 := by omega
      have hq0 : (0 : Int) ≤ (q : Int) := by omega
      rcases (show x % 4 = 0 ∨ x % 4 = 1 ∨ x % 4 = 2 ∨ x % 4 = 3 by omega) with h4 | h4 | h4 | h4
      · have hr : (x : Int) % 4 = 0 := by omega
        clear h4 hx255
        obtain ⟨j, hj⟩ : ∃ j : Nat, (q : Int) % 8 = (j : Int) := ⟨q % 8, by omega⟩
        have hj0 : (0 : Int) ≤ (j : Int) := by omega
        have hj8 : (j : Int) < 8 := by omega
        have hjn := hide (show j < 8 by omega)
        have HM := hide (fun W => nmk_any 0 0 (j : Int) j W)
        have HS := hide (fun W (h : NS w1 W w1.heap.size A (fun x => x = w2.heap.size ∨ x = w2.heap.size + 1)) => ns_send (j : Int) j ⟨by omega, by omega⟩ (by omega) h (by have := unhide hA; omega))
        have hwj : IntKind.u64.wrap (j : Int) = (j : Int) := by rw [IntKind.wrap_u64]; omega
        have hS1 := hide ((unhide BR).ok.most j)
        have hS2 : ((S j : Nat) : Int) ≤ 100 := by have := unhide hS1; omega
        have hS0 : (0 : Int) ≤ ((S j : Nat) : Int) := by omega
        go_wp2_with (first
          | (go_at_call 14; refine (unhide HL).mono ?_; clear HL; rintro e w3 ⟨rfl, rfl⟩)
          | (go_at_call 9; refine (unhide HM _).mono ?_; clear HM; rintro e w4 ⟨rfl, hb4⟩; have B4 := hide ((unhide BR).below hb4); clear hb4)
          | (go_at_call 8; refine (unhide HS _ (unhide B4).net).mono ?_; clear HS; rintro e w5 ⟨rfl, h5, k5⟩; have A5 := hide ((unhide B4).sent.same (k5 _ (.inl rfl))); have G5 := hide ((unhide B4).gone.same (k5 _ (.inr rfl))); have N5 := hide h5; clear h5 k5; obtain ⟨c5, f5⟩ := (unhide A5).cell (unhide hjn)))
        go_roundw
        case rel =>
          obtain ⟨u1, u2, u3⟩ := BW.up (unhide N5) (unhide A5) (unhide G5) (unhide BR).low (unhide hjn)
          exact ⟨k + 1, by omega, by go_num, ⟨_, _, _, (unhide BR).with u1 u2 u3 ((unhide BR).ok.add (unhide hjn))⟩⟩
        case measure => simp [intOf]; omega
      · have hr : (x : Int) % 4 = 1 := by omega
        clear h4 hx255
        obtain ⟨j, hj⟩ : ∃ j : Nat, (q : Int) % 8 = (j : Int) := ⟨q % 8, by omega⟩
        have hj0 : (0 : Int) ≤ (j : Int) := by omega
        have hj8 : (j : Int) < 8 := by omega
        have hjn := hide (show j < 8 by omega)
        have HM := hide (fun W => nmk_any 0 0 (j : Int) j W)
        have HS := hide (fun W (h : NS w1 W w1.heap.size A (fun x => x = w2.heap.size ∨ x = w2.heap.size + 1)) => ns_send (j : Int) j ⟨by omega, by omega⟩ (by omega) h (by have := unhide hA; omega))
        have hwj : IntKind.u64.wrap (j : Int) = (j : Int) := by rw [IntKind.wrap_u64]; omega
        have hS1 := hide ((unhide BR).ok.most j)
        have hS2 : ((S j : Nat) : Int) ≤ 100 := by have := unhide hS1; omega
        have hS0 : (0 : Int) ≤ ((S j : Nat) : Int) := by omega
        go_wp2_with (first
          | (go_at_call 14; refine (unhide HL).mono ?_; clear HL; rintro e w3 ⟨rfl, rfl⟩)
          | (go_at_call 9; refine (unhide HM _).mono ?_; clear HM; rintro e w4 ⟨rfl, hb4⟩; have B4 := hide ((unhide BR).below hb4); clear hb4)
          | (go_at_call 8; refine (unhide HS _ (unhide B4).net).mono ?_; clear HS; rintro e w5 ⟨rfl, h5, k5⟩; have A5 := hide ((unhide B4).sent.same (k5 _ (.inl rfl))); have G5 := hide ((unhide B4).gone.same (k5 _ (.inr rfl))); have N5 := hide h5; clear h5 k5; obtain ⟨c5, f5⟩ := (unhide A5).cell (unhide hjn)))
        go_roundw
        case rel =>
          obtain ⟨u1, u2, u3⟩ := BW.up (unhide N5) (unhide A5) (unhide G5) (unhide BR).low (unhide hjn)
          exact ⟨k + 1, by omega, by go_num, ⟨_, _, _, (unhide BR).with u1 u2 u3 ((unhide BR).ok.add (unhide hjn))⟩⟩
        case measure => simp [intOf]; omega
      · have hr : (x : Int) % 4 = 2 := by omega
        clear h4 hx255
        by_cases hz : A.length = 0
        · have hzb : ((A.length : Int) == 0) = true := by simp [hz]
          go_wp2_with (first
            | (go_at_call 14; refine (unhide HL).mono ?_; clear HL; rintro e w3 ⟨rfl, rfl⟩))
          go_roundw
          case rel => exact ⟨k + 1, by omega, by go_num, ⟨_, _, _, (unhide BR).with (unhide BR).net (unhide BR).sent (unhide BR).gone (unhide BR).ok.more⟩⟩
          case measure => simp [intOf]; omega
        have hzb : ((A.length : Int) == 0) = false := beq_eq_false_iff_ne.2 (by omega)
        have hzp : (0 : Int) < (A.length : Int) := by omega
        have hAe : (A = []) = False := eq_false (fun e => by rw [e] at hz; exact hz rfl)
        obtain ⟨i, hi⟩ : ∃ i : Nat, (q : Int) % (A.length : Int) = (i : Int) := ⟨((q : Int) % (A.length : Int)).toNat, by have := Int.emod_nonneg (q : Int) (show (A.length : Int) ≠ 0 by omega); omega⟩
        have hil : i < A.length := by have := Int.emod_lt_of_pos (q : Int) hzp; omega
        obtain ⟨j, hj8n, hat0⟩ := (unhide BR).ok.at hil
        have hat := hide hat0
        have hjn := hide hj8n
        have hj0 : (0 : Int) ≤ (j : Int) := by omega
        have hj8 : (j : Int) < 8 := by omega
        have hj7 : ¬ (7 : Int) < (j : Int) := by omega
        clear hat0 hj8n hz hil
        have HP := hide (fun W (h : NS w1 W w1.heap.size A (fun x => x = w2.heap.size ∨ x = w2.heap.size + 1)) => ns_peek (i := i) ((j : Int), j) (h.et (unhide HE1)) h (unhide hat))
        have hS1 := hide ((unhide BR).ok.most j)
        have hS3 := hide ((unhide BR).ok.bal j)
        have hS2 : ((S j : Nat) : Int) ≤ 100 := by have := unhide hS1; have := unhide hS3; omega
        have hS0 : (0 : Int) ≤ ((S j : Nat) : Int) := by omega
        go_wp2_with (first
          | (go_at_call 14; refine (unhide HL).mono ?_; clear HL; rintro e w3 ⟨rfl, rfl⟩))
        refine (unhide HP _ (unhide BR).net).mono ?_
        rintro e w4 ⟨M, rfl, hM0, h4, k4⟩
        have hM : MS M (j : Int) j := hM0
        clear hM0
        have A4 := hide ((unhide BR).sent.same (k4 _ (.inl rfl)))
        have G4 := hide ((unhide BR).gone.same (k4 _ (.inr rfl)))
        clear HP k4
        rename_i K0 hK0
        refine hK0 _ _ ?_
        clear hK0 K0
        refine list_to (d := 94) (v := .tuple #[.agg M.toArray, .nilIface]) rfl rfl (by go_simp) ?_
        simp only [Act.put, List.setIfInBounds_toArray, List.set_cons_zero, List.set_cons_succ]
        refine list_to (d := 100) (v := .agg M.toArray) rfl rfl (by go_simp) ?_
        simp only [Act.put, List.setIfInBounds_toArray, List.set_cons_zero, List.set_cons_succ]
        refine list_to (d := 101) (v := .nilIface) rfl rfl (by go_simp) ?_
        simp only [Act.put, List.setIfInBounds_toArray, List.set_cons_zero, List.set_cons_succ]
        refine wpList_alloc_new rfl 43 rfl zM (zero_of_info Tryz.zeroM).1 ?_
        refine wpList_store_mid rfl 43 (.tmp 9) (.tmp 100) rfl w4.heap.size 0 M.toArray rfl rfl (hM.there (there_new w4 43 zM 23 rfl)).1 hM.sizeA (all_oneCell_toArray hM.one) ?_
        rw [List.toList_toArray, setCells_new w4 43 zM M (by rw [hM.len]; rfl)]
        have Sw5 := ms_seq (w := w4) hM
        have Tw5 := ms_to (w := w4) hM
        have N5 := hide (h4.new (.cells M.toArray 43))
        have A5 := hide ((unhide A4).same (Below.heap_alloc w4 (.cells M.toArray 43) _ (h4.lt (.inl rfl))))
        have G5 := hide ((unhide G4).same (Below.heap_alloc w4 (.cells M.toArray 43) _ (h4.lt (.inr rfl))))
        clear h4 A4 G4
        have zw5 : (w4.alloc (.cells M.toArray 43)).heap.size = w4.heap.size + 1 := by simp
        generalize w4.alloc (.cells M.toArray 43) = w5 at *
        have HC := hide (fun (h : NS w1 w5 w1.heap.size A (fun x => (x = w2.heap.size ∨ x = w2.heap.size + 1) ∨ x = w4.heap.size)) => ns_copy (i := i) ((j : Int), j) h (unhide hat) (by have := unhide hA; omega))
        have SQ := hide Sw5
        go_wp2_with (first
          | (go_at_call 13; refine (unhide HC (unhide N5)).mono ?_; clear HC; rintro e w7 ⟨rfl, h7, k7⟩; have A7 := hide ((unhide A5).same (k7 _ (.inl (.inl rfl)))); have G7 := hide ((unhide G5).same (k7 _ (.inl (.inr rfl)))); have c7 : w7.cell? ⟨w4.heap.size, 14, none⟩ = some (.int .u64 (j : Int)) := (cell_same (k7 _ (.inr rfl)) 14).trans (unhide SQ); have N7 := hide (h7.less (fun x hx => .inl hx)); clear h7 k7; obtain ⟨c8, f8⟩ := (unhide A7).cell (unhide hjn)))
        go_roundw
        case rel =>
          obtain ⟨u1, u2, u3⟩ := BW.up (unhide N7) (unhide A7) (unhide G7) (unhide BR).low (unhide hjn)
          exact ⟨k + 1, by omega, by go_num, ⟨_, _, _, (unhide BR).with u1 u2 u3 ((unhide BR).ok.add (unhide hjn))⟩⟩
        case measure => simp [intOf]; omega
      · have hr : (x : Int) % 4 = 3 := by omega
        clear h4 hx255
        by_cases hz : A.length = 0
        · have hzb : ((A.length : Int) == 0) = true := by simp [hz]
          go_wp2_with (first
            | (go_at_call 14; refine (unhide HL).mono ?_; clear HL; rintro e w3 ⟨rfl, rfl⟩))
          go_roundw
          case rel => exact ⟨k + 1, by omega, by go_num, ⟨_, _, _, (unhide BR).with (unhide BR).net (unhide BR).sent (unhide BR).gone (unhide BR).ok.more⟩⟩
          case measure => simp [intOf]; omega
        have hzb : ((A.length : Int) == 0) = false := beq_eq_false_iff_ne.2 (by omega)
        have hzp : (0 : Int) < (A.length : Int) := by omega
        have hAe : (A = []) = False := eq_false (fun e => by rw [e] at hz; exact hz rfl)
        obtain ⟨i, hi⟩ : ∃ i : Nat, (q : Int) % (A.length : Int) = (i : Int) := ⟨((q : Int) % (A.length : Int)).toNat, by have := Int.emod_nonneg (q : Int) (show (A.length : Int) ≠ 0 by omega); omega⟩
        have hil : i < A.length := by have := Int.emod_lt_of_pos (q : Int) hzp; omega
        obtain ⟨j, hj8n, hat0⟩ := (unhide BR).ok.at hil
        have hat := hide hat0
        have hjn := hide hj8n
        have hj0 : (0 : Int) ≤ (j : Int) := by omega
        have hj8 : (j : Int) < 8 := by omega
        have hj7 : ¬ (7 : Int) < (j : Int) := by omega
        clear hat0 hj8n hz hil
        have HP := hide (fun W (h : NS w1 W w1.heap.size A (fun x => x = w2.heap.size ∨ x = w2.heap.size + 1)) => ns_peek (i := i) ((j : Int), j) (h.et (unhide HE1)) h (unhide hat))
        have hS1 := hide ((unhide BR).ok.most j)
        have hS3 := hide ((unhide BR).ok.bal j)
        have hS2 : ((G j : Nat) : Int) ≤ 100 := by have := unhide hS1; have := unhide hS3; omega
        have hS0 : (0 : Int) ≤ ((G j : Nat) : Int) := by omega
        go_wp2_with (first
          | (go_at_call 14; refine (unhide HL).mono ?_; clear HL; rintro e w3 ⟨rfl, rfl⟩))
        refine (unhide HP _ (unhide BR).net).mono ?_
        rintro e w4 ⟨M, rfl, hM0, h4, k4⟩
        have hM : MS M (j : Int) j := hM0
        clear hM0
        have A4 := hide ((unhide BR).sent.same (k4 _ (.inl rfl)))
        have G4 := hide ((unhide BR).gone.same (k4 _ (.inr rfl)))
        clear HP k4
        rename_i K0 hK0
        refine hK0 _ _ ?_
        clear hK0 K0
        refine list_to (d := 42) (v := .tuple #[.agg M.toArray, .nilIface]) rfl rfl (by go_simp) ?_
        simp only [Act.put, List.setIfInBounds_toArray, List.set_cons_zero, List.set_cons_succ]
        refine list_to (d := 48) (v := .agg M.toArray) rfl rfl (by go_simp) ?_
        simp only [Act.put, List.setIfInBounds_toArray, List.set_cons_zero, List.set_cons_succ]
        refine list_to (d := 49) (v := .nilIface) rfl rfl (by go_simp) ?_
        simp only [Act.put, List.setIfInBounds_toArray, List.set_cons_zero, List.set_cons_succ]
        refine wpList_alloc_new rfl 43 rfl zM (zero_of_info Tryz.zeroM).1 ?_
        refine wpList_store_mid rfl 43 (.tmp 11) (.tmp 48) rfl w4.heap.size 0 M.toArray rfl rfl (hM.there (there_new w4 43 zM 23 rfl)).1 hM.sizeA (all_oneCell_toArray hM.one) ?_
        rw [List.toList_toArray, setCells_new w4 43 zM M (by rw [hM.len]; rfl)]
        have Sw5 := ms_seq (w := w4) hM
        have Tw5 := ms_to (w := w4) hM
        have N5 := hide (h4.new (.cells M.toArray 43))
        have A5 := hide ((unhide A4).same (Below.heap_alloc w4 (.cells M.toArray 43) _ (h4.lt (.inl rfl))))
        have G5 := hide ((unhide G4).same (Below.heap_alloc w4 (.cells M.toArray 43) _ (h4.lt (.inr rfl))))
        clear h4 A4 G4
        have zw5 : (w4.alloc (.cells M.toArray 43)).heap.size = w4.heap.size + 1 := by simp
        generalize w4.alloc (.cells M.toArray 43) = w5 at *
        have HC := hide (fun (h : NS w1 w5 w1.heap.size A (fun x => (x = w2.heap.size ∨ x = w2.heap.size + 1) ∨ x = w4.heap.size)) => ns_drop (i := i) ((j : Int), j) h (unhide hat))
        have SQ := hide Sw5
        go_wp2_with (first
          | (go_at_call 12; refine (unhide HC (unhide N5)).mono ?_; clear HC; rintro e w7 ⟨rfl, h7, k7⟩; have A7 := hide ((unhide A5).same (k7 _ (.inl (.inl rfl)))); have G7 := hide ((unhide G5).same (k7 _ (.inl (.inr rfl)))); have c7 : w7.cell? ⟨w4.heap.size, 14, none⟩ = some (.int .u64 (j : Int)) := (cell_same (k7 _ (.inr rfl)) 14).trans (unhide SQ); have N7 := hide (h7.less (fun x hx => .inl hx)); clear h7 k7; obtain ⟨c8, f8⟩ := (unhide G7).cell (unhide hjn)))
        go_roundw
        case rel =>
          obtain ⟨u1, u2, u3⟩ := BW.up' (unhide N7) (unhide A7) (unhide G7) (unhide BR).low (unhide hjn)
          exact ⟨k + 1, by omega, by go_num, ⟨_, _, _, (unhide BR).with u1 u2 u3 (((unhide BR).ok.rem (unhide hat)).1.more)⟩⟩
        case measure => simp [intOf]; omega
    · obtain rfl : k = l.length := by omega
      have BR := hide hB
      clear hB
      have hkk := unhide hlen
      go_wp2_with fail
      go_loopg [] A.length (fun g wx => ∃ A' G', g = A'.length ∧ Hid (BW w1 wx w1.heap.size w2.heap.size A' S G' l.length))
      case atStart => exact ⟨A, G, rfl, BR⟩
      case round =>
        obtain ⟨A', G', rfl, BX⟩ := hrel
        clear BR
        have HL := hide (ns_len (unhide BX).net)
        have HL2 := HL
        by_cases hz : A' = []
        · subst hz
          have hz0 : ¬ (0 : Int) < (([] : List (Int × Nat)).length : Int) := by simp
          obtain ⟨d0, _⟩ := (unhide BX).sent.cell (j := 0) (by decide)
          obtain ⟨d1, _⟩ := (unhide BX).sent.cell (j := 1) (by decide)
          obtain ⟨d2, _⟩ := (unhide BX).sent.cell (j := 2) (by decide)
          obtain ⟨d3, _⟩ := (unhide BX).sent.cell (j := 3) (by decide)
          obtain ⟨d4, _⟩ := (unhide BX).sent.cell (j := 4) (by decide)
          obtain ⟨d5, _⟩ := (unhide BX).sent.cell (j := 5) (by decide)
          obtain ⟨d6, _⟩ := (unhide BX).sent.cell (j := 6) (by decide)
          obtain ⟨d7, _⟩ := (unhide BX).sent.cell (j := 7) (by decide)
          obtain ⟨e0, _⟩ := (unhide BX).gone.cell (j := 0) (by decide)
          obtain ⟨e1, _⟩ := (unhide BX).gone.cell (j := 1) (by decide)
          obtain ⟨e2, _⟩ := (unhide BX).gone.cell (j := 2) (by decide)
          obtain ⟨e3, _⟩ := (unhide BX).gone.cell (j := 3) (by decide)
          obtain ⟨e4, _⟩ := (unhide BX).gone.cell (j := 4) (by decide)
          obtain ⟨e5, _⟩ := (unhide BX).gone.cell (j := 5) (by decide)
          obtain ⟨e6, _⟩ := (unhide BX).gone.cell (j := 6) (by decide)
          obtain ⟨e7, _⟩ := (unhide BX).gone.cell (j := 7) (by decide)
          rw [(unhide BX).ok.done] at e0 e1 e2 e3 e4 e5 e6 e7
          have m0 := (unhide BX).ok.most 0
          have m1 := (unhide BX).ok.most 1
          have m2 := (unhide BX).ok.most 2
          have m3 := (unhide BX).ok.most 3
          have m4 := (unhide BX).ok.most 4
          have m5 := (unhide BX).ok.most 5
          have m6 := (unhide BX).ok.most 6
          have m7 := (unhide BX).ok.most 7
          have kq := fun (W : World) => eq8 (S 0) (S 1) (S 2) (S 3) (S 4) (S 5) (S 6) (S 7) W (by omega) (by omega) (by omega) (by omega) (by omega) (by omega) (by omega) (by omega)
          clear m0 m1 m2 m3 m4 m5 m6 m7
          generalize S 0 = s0 at d0 e0 kq
          generalize S 1 = s1 at d1 e1 kq
          generalize S 2 = s2 at d2 e2 kq
          generalize S 3 = s3 at d3 e3 kq
          generalize S 4 = s4 at d4 e4 kq
          generalize S 5 = s5 at d5 e5 kq
          generalize S 6 = s6 at d6 e6 kq
          generalize S 7 = s7 at d7 e7 kq
          have HBB := hide (one_b (unhide Q1) (unhide BX).net.bel)
          clear BX HL2
          go_wp2_with (first | (go_at_call 14; refine (unhide HL).mono ?_; clear HL; rintro e w3 ⟨rfl, rfl⟩))
          go_ret
          exact ⟨rfl, unhide HBB⟩
        · have hAe : (A' = []) = False := eq_false hz
          have hpos : 0 < A'.length := List.length_pos_iff.2 hz
          have hzp : (0 : Int) < (A'.length : Int) := by omega
          have hA4 : (A'.length : Int) ≤ 4096 := by have := (unhide BX).net.few; omega
          obtain ⟨i, hi⟩ : ∃ i : Nat, (A'.length : Int) / 2 = (i : Int) := ⟨A'.length / 2, by omega⟩
          have hil : i < A'.length := by omega
          obtain ⟨j, hj8n, hat0⟩ := (unhide BX).ok.at hil
          have hat := hide hat0
          have hjn := hide hj8n
          have hj0 : (0 : Int) ≤ (j : Int) := by omega
          have hj8 : (j : Int) < 8 := by omega
          have hj7 : ¬ (7 : Int) < (j : Int) := by omega
          obtain ⟨hrem, hle⟩ := (unhide BX).ok.rem hat0
          rw [up1_self] at hle
          have HREM := hide hrem
          have hS1 := (unhide BX).ok.most j
          have hG2 : ((G' j : Nat) : Int) ≤ 100 := by omega
          have hG0 : (0 : Int) ≤ ((G' j : Nat) : Int) := by omega
          have hGS : ¬ ((S j : Nat) : Int) < ((G' j : Nat) : Int) + 1 := by omega
          have hGS' : ((G' j : Nat) : Int) + 1 ≤ ((S j : Nat) : Int) := by omega
          have hlenE : Hid ((A'.eraseIdx i).length < A'.length) := by rw [List.length_eraseIdx, if_pos hil]; exact hide (by omega)
          have HT := hide (fun W (h : NS w1 W w1.heap.size A' (fun x => x = w2.heap.size ∨ x = w2.heap.size + 1)) => ns_take (i := i) ((j : Int), j) (h.et (unhide HE1)) h (unhide hat))
          clear hat0 hj8n hz hil hrem hS1 hpos
          go_wp2_with (first
            | (go_at_call 14; refine (unhide HL).mono ?_; clear HL; rintro e w3 ⟨rfl, rfl⟩)
            | (go_at_call 14; refine (unhide HL2).mono ?_; clear HL2; rintro e w3 ⟨rfl, rfl⟩))
          refine (unhide HT _ (unhide BX).net).mono ?_
          rintro e w4 ⟨M, rfl, hM0, h4, k4⟩
          have hM : MS M (j : Int) j := hM0
          clear hM0
          have A4 := hide ((unhide BX).sent.same (k4 _ (.inl rfl)))
          have G4 := hide ((unhide BX).gone.same (k4 _ (.inr rfl)))
          clear HT k4
          rename_i K0 hK0
          refine hK0 _ _ ?_
          clear hK0 K0
          refine list_to (d := 126) (v := .tuple #[.agg M.toArray, .nilIface]) rfl rfl (by go_simp) ?_
          simp only [Act.put, List.setIfInBounds_toArray, List.set_cons_zero, List.set_cons_succ]
          refine list_to (d := 132) (v := .agg M.toArray) rfl rfl (by go_simp) ?_
          simp only [Act.put, List.setIfInBounds_toArray, List.set_cons_zero, List.set_cons_succ]
          refine list_to (d := 133) (v := .nilIface) rfl rfl (by go_simp) ?_
          simp only [Act.put, List.setIfInBounds_toArray, List.set_cons_zero, List.set_cons_succ]
          refine wpList_alloc_new rfl 43 rfl zM (zero_of_info Tryz.zeroM).1 ?_
          refine wpList_store_mid rfl 43 (.tmp 13) (.tmp 132) rfl w4.heap.size 0 M.toArray rfl rfl (hM.there (there_new w4 43 zM 23 rfl)).1 hM.sizeA (all_oneCell_toArray hM.one) ?_
          rw [List.toList_toArray, setCells_new w4 43 zM M (by rw [hM.len]; rfl)]
          have Sw5 := ms_seq (w := w4) hM
          have Tw5 := ms_to (w := w4) hM
          have N5 := hide (h4.below (one_new'' w4 (.cells M.toArray 43))).1
          have A5 := hide ((unhide A4).same (Below.heap_alloc w4 (.cells M.toArray 43) _ (h4.lt (.inl rfl))))
          have G5 := hide ((unhide G4).same (Below.heap_alloc w4 (.cells M.toArray 43) _ (h4.lt (.inr rfl))))
          have lw4 := h4.lt (.inl rfl : w2.heap.size = w2.heap.size ∨ w2.heap.size = w2.heap.size + 1)
          have lw5 := h4.lt (.inr rfl : w2.heap.size + 1 = w2.heap.size ∨ w2.heap.size + 1 = w2.heap.size + 1)
          clear h4 A4 G4
          have zw5 : (w4.alloc (.cells M.toArray 43)).heap.size = w4.heap.size + 1 := by simp
          generalize w4.alloc (.cells M.toArray 43) = w5 at *
          obtain ⟨c8, f8⟩ := (unhide G5).cell (unhide hjn)
          obtain ⟨c9, _⟩ := (unhide A5).cell (unhide hjn)
          have hwi : IntKind.i64.wrap (j : Int) = (j : Int) := by rw [IntKind.wrap_i64]; omega
          go_wp2_with fail
          obtain ⟨u1, u2, u3⟩ := BW.up' (unhide N5) (unhide A5) (unhide G5) (unhide BX).low (unhide hjn)
          have cq := hide ((cell_same (heap_setCell_ne j (.int .i64 ((G' j : Int) + 1)) (show w4.heap.size ≠ w2.heap.size + 1 by omega)) 14).trans Sw5)
          have U1 := hide u1
          have U2 := hide u2
          have U3 := hide u3
          have cs := (u2.cell (unhide hjn)).1
          have cg := (u3.cell (unhide hjn)).1
          rw [up1_self] at cg
          have cg' : (w5.setCell ⟨w2.heap.size + 1, j, none⟩ (.int .i64 ((G' j : Int) + 1))).cell? ⟨w2.heap.size + 1, j, none⟩ = some (.int .i64 ((G' j : Int) + 1)) := cg
          clear u1 u2 u3 cg c8 c9 f8
          generalize w5.setCell ⟨w2.heap.size + 1, j, none⟩ (.int .i64 ((G' j : Int) + 1)) = w6 at *
          refine wp_region_held_drew (S := fun w' => w'.cell? ⟨w4.heap.size, 14, none⟩ = some (.int .u64 (j : Int)) ∧ w'.cell? ⟨w2.heap.size + 1, j, none⟩ = some (.int .i64 ((G' j : Int) + 1)) ∧ w'.cell? ⟨w2.heap.size, j, none⟩ = some (.int .i64 ((S j : Nat) : Int))) (by kernel_rfl) ⟨unhide cq, cg', cs⟩ (fun hHeld => ?_)
          refine hand_to (i := 0) (d := 155) (v := .pointer (some ⟨w4.heap.size, 14, none⟩)) rfl rfl (by kernel_rfl) (by kernel_rfl) (by kernel_rfl) (fun _ _ _ h => h) (Or.inl ⟨by rfl, ?_⟩) hHeld ?_
          · (intro w' hSw; obtain ⟨hx0, hx1, hx2⟩ := hSw; go_simp)
          simp only [Act.put, List.setIfInBounds_toArray, List.set_cons_zero, List.set_cons_succ]
          refine hand_to (i := 1) (d := 156) (v := .int .u64 (j : Int)) rfl rfl (by kernel_rfl) (by kernel_rfl) (by kernel_rfl) (fun _ _ _ h => h) (Or.inl ⟨by rfl, ?_⟩) hHeld ?_
          · (intro w' hSw; obtain ⟨hx0, hx1, hx2⟩ := hSw; go_simp)
          simp only [Act.put, List.setIfInBounds_toArray, List.set_cons_zero, List.set_cons_succ]
          refine hand_to (i := 2) (d := 157) (v := .pointer (some ⟨w2.heap.size + 1, j, none⟩)) rfl rfl (by kernel_rfl) (by kernel_rfl) (by kernel_rfl) (fun _ _ _ h => h) (Or.inl ⟨by rfl, ?_⟩) hHeld ?_
          · (intro w' hSw; obtain ⟨hx0, hx1, hx2⟩ := hSw; go_simp)
          simp only [Act.put, List.setIfInBounds_toArray, List.set_cons_zero, List.set_cons_succ]
          refine hand_to (i := 3) (d := 158) (v := .int .i64 ((G' j : Int) + 1)) rfl rfl (by kernel_rfl) (by kernel_rfl) (by kernel_rfl) (fun _ _ _ h => h) (Or.inl ⟨by rfl, ?_⟩) hHeld ?_
          · (intro w' hSw; obtain ⟨hx0, hx1, hx2⟩ := hSw; go_simp)
          simp only [Act.put, List.setIfInBounds_toArray, List.set_cons_zero, List.set_cons_succ]
          refine hand_to (i := 4) (d := 159) (v := .pointer (some ⟨w4.heap.size, 14, none⟩)) rfl rfl (by kernel_rfl) (by kernel_rfl) (by kernel_rfl) (fun _ _ _ h => h) (Or.inl ⟨by rfl, ?_⟩) hHeld ?_
          · (intro w' hSw; obtain ⟨hx0, hx1, hx2⟩ := hSw; go_simp)
          simp only [Act.put, List.setIfInBounds_toArray, List.set_cons_zero, List.set_cons_succ]
          refine hand_to (i := 5) (d := 160) (v := .int .u64 (j : Int)) rfl rfl (by kernel_rfl) (by kernel_rfl) (by kernel_rfl) (fun _ _ _ h => h) (Or.inl ⟨by rfl, ?_⟩) hHeld ?_
          · (intro w' hSw; obtain ⟨hx0, hx1, hx2⟩ := hSw; go_simp)
          simp only [Act.put, List.setIfInBounds_toArray, List.set_cons_zero, List.set_cons_succ]
          refine hand_to (i := 6) (d := 161) (v := .pointer (some ⟨w2.heap.size, j, none⟩)) rfl rfl (by kernel_rfl) (by kernel_rfl) (by kernel_rfl) (fun _ _ _ h => h) (Or.inl ⟨by rfl, ?_⟩) hHeld ?_
          · (intro w' hSw; obtain ⟨hx0, hx1, hx2⟩ := hSw; go_simp)
          simp only [Act.put, List.setIfInBounds_toArray, List.set_cons_zero, List.set_cons_succ]
          refine hand_to (i := 7) (d := 162) (v := .int .i64 ((S j : Nat) : Int)) rfl rfl (by kernel_rfl) (by kernel_rfl) (by kernel_rfl) (fun _ _ _ h => h) (Or.inl ⟨by rfl, ?_⟩) hHeld ?_
          · (intro w' hSw; obtain ⟨hx0, hx1, hx2⟩ := hSw; go_simp)
          simp only [Act.put, List.setIfInBounds_toArray, List.set_cons_zero, List.set_cons_succ]
          refine hand_to (i := 8) (d := 163) (v := .bool false) rfl rfl (by kernel_rfl) (by kernel_rfl) (by kernel_rfl) (fun _ _ _ h => h) (Or.inl ⟨by rfl, ?_⟩) hHeld ?_
          · (intro w' hSw; obtain ⟨hx0, hx1, hx2⟩ := hSw; go_simp)
          simp only [Act.put, List.setIfInBounds_toArray, List.set_cons_zero, List.set_cons_succ]
          refine wpAnyH_done (by kernel_rfl) ?_ _
          go_wp2
          go_roundg (A'.eraseIdx i).length
          case rel => exact ⟨_, _, rfl, ⟨((unhide U1).below (Below.refl _ _).drew).1, (unhide U2), (unhide U3), unhide HREM, (unhide BX).low⟩⟩
          case measure => exact unhide hlenE
end Go.Proofs.YtpepilcdlhkmkaaGreatDoor
