/- Contracts of package wire's reader of lists: entries, texts, values, rows. -/
import Derived.Test.YtahpfhnekmilmaaGreatDoorMsgMath
import Derived.Test.YtahpfhnekmilmaaGreatDoorREntry
import Derived.Test.YtahpfhnekmilmaaGreatDoorLawRows
namespace Go.Proofs.YtahpfhnekmilmaaGreatDoor
open Go.RowKit Go.Lib

/-- No block from B on turns. -/
def Hi (B : Nat) (w w' : World) : Prop := w.heap.size ≤ w'.heap.size ∧ ∀ k, B ≤ k → k < w.heap.size → w'.heap[k]? = w.heap[k]?
theorem Hi.refl (B : Nat) (w : World) : Hi B w w := ⟨Nat.le_refl _, fun _ _ _ => rfl⟩
theorem Hi.trans {B : Nat} {a b c : World} (h : Hi B a b) (h' : Hi B b c) : Hi B a c :=
  ⟨Nat.le_trans h.1 h'.1, fun k hk hl => (h'.2 k hk (Nat.lt_of_lt_of_le hl h.1)).trans (h.2 k hk hl)⟩
theorem Hi.of_fq {B p : Nat} {w w' : World} (h : Fq p w w') (hp : p < B) : Hi B w w' := ⟨h.1.size, fun k hk hl => h.2 k hl (by omega)⟩
theorem Hi.alloc {B : Nat} {a w : World} (h : Hi B a w) (o : Obj) : Hi B a (w.alloc o) :=
  ⟨by have := h.1; simp; omega, fun k hk hl => (Below.heap_alloc w o k (Nat.lt_of_lt_of_le hl h.1)).trans (h.2 k hk hl)⟩
theorem Hi.setCell {B M : Nat} {a w : World} (h : Hi B a w) (hM : M < B) (j : Nat) (u : Value) : Hi B a (w.setCell ⟨M, j, none⟩ u) :=
  ⟨by simpa using h.1, fun k hk hl => (Below.heap_setCell w ⟨M, j, none⟩ u k (by simp; omega)).trans (h.2 k hk hl)⟩
theorem Hi.mono {B B' : Nat} {w w' : World} (h : Hi B w w') (hB : B ≤ B') : Hi B' w w' := ⟨h.1, fun k hk hl => h.2 k (by omega) hl⟩
theorem own_hi {w w' : World} {B : Nat} {e : TypeId} {sz : Nat} {v : Value} {n : Nat} {xs : List Value} (h : w.ownsRow B e sz v n xs) (hf : Hi B w w') : w'.ownsRow B e sz v n xs := by
  obtain ⟨h1, h2 | ⟨g, cap, cur, h3, h4, h5, h6⟩⟩ := h
  · exact ⟨h1, .inl h2⟩
  · have hg : g < w.heap.size := by
      rcases Nat.lt_or_ge g w.heap.size with h' | h'
      · exact h'
      · rw [Array.getElem?_eq_none h'] at h5; cases h5
    exact ⟨h1, .inr ⟨g, cap, cur, h3, h4, (hf.2 g h4 hg).trans h5, h6⟩⟩
theorem Fq.grown {p : Nat} {a w w' : World} {r : Option Nat} (h : Fq p a w) (hg : w.grownBy w' r) (ho : ∀ k, r = some k → a.heap.size ≤ k) (hp : p < a.heap.size) : Fq p a w' := by
  refine ⟨h.1.grown hg (Nat.le_trans (Nat.le_of_lt hp) h.1.size) (fun k hk => by have := ho k hk; omega), fun k hk hne => ?_⟩
  refine (hg.block k (Nat.lt_of_lt_of_le hk h.1.size) ?_).trans (h.2 k hk hne)
  intro e
  have := ho k e.symm
  omega
theorem Tryz.infoS : (Tryz.prog.info? 9).map (fun i => (i.zero, i.size, i.bytes)) = some (some (.string ⟨#[]⟩), 1, 16) := by kernel_rfl
theorem one_any (w : World) (u : Value) (e : TypeId) : ∀ j v, ([u] : List Value)[j]? = some v → (w.alloc (.cells #[u] e)).cell? ((⟨w.heap.size, 0, none⟩ : Addr).add j) = some v := by
  intro j v hj
  match j, hj with
  | 0, hj => simp at hj; subst hj; simp [Addr.add]
def geListCells (es : List GE) : List Value := es.flatMap geCells
theorem geList_snoc (es : List GE) (g : GE) : geListCells (es ++ [g]) = geListCells es ++ geCells g := by simp [geListCells]
def strListCells (ts : List ByteArray) : List Value := ts.map Value.string
theorem strList_snoc (ts : List ByteArray) (t : ByteArray) : strListCells (ts ++ [t]) = strListCells ts ++ [.string t] := by simp [strListCells]
theorem rdN_length {α : Type} {R : List UInt8 → Except Nat Nat → α × Except Nat Nat} {l : List UInt8} {s : Except Nat Nat} : ∀ (n b : Nat), (rdN R l n s).2 = .ok b → (rdN R l n s).1.length = n
  | 0, b, _ => rfl
  | n + 1, b, h => by
    simp only [rdN] at h ⊢
    cases hn : (rdN R l n s).2 with
    | error c => rw [hn] at h; simp at h
    | ok a1 =>
      rw [hn] at h
      dsimp only at h ⊢
      cases hr : (R l (.ok a1)).2 with
      | error c => rw [hr] at h; simp at h
      | ok a2 => simp [rdN_length n a1 hn]

/-- Rows of values, each of the call's own. -/
def OwR (w : World) (B : Nat) (v : Value) (rs : List (List GV)) : Prop :=
  ∃ vs : List Value, vs.length = rs.length ∧ w.ownsRow B 115 1 v rs.length vs ∧ ∀ (i : Nat) (u : Value) (gs : List GV), vs[i]? = some u → rs[i]? = some gs → w.ownsRow B 143 3 u gs.length (gvsCells gs)
theorem OwR.hi {w w' : World} {B : Nat} {v : Value} {rs : List (List GV)} (h : OwR w B v rs) (hf : Hi B w w') : OwR w' B v rs := by
  obtain ⟨vs, h1, h2, h3⟩ := h
  exact ⟨vs, h1, own_hi h2 hf, fun i u gs hu hg => own_hi (h3 i u gs hu hg) hf⟩
theorem rtextcol_any (p : Nat) (l : List UInt8) (s : Except Nat Nat) (w : World) (h : RS w p l s) :
    Calls Tryz.prog 61 #[.pointer (some ⟨p, 0, none⟩), .int .i64 2000] w fun e w' => e = .returned (.string (rdTxt 2000 l s).1) ∧ RS w' p l (rdTxt 2000 l s).2 ∧ Fq p w w' := rtextN_any p 2000 l s w h (by decide)
set_option maxHeartbeats 1600000 in
theorem rcol_any (p : Nat) (l : List UInt8) (s : Except Nat Nat) (w : World) (h : RS w p l s) :
    Calls Tryz.prog 70 #[.pointer (some ⟨p, 0, none⟩)] w fun e w' => e = .returned (.string (rdTxt 2000 l s).1) ∧ RS w' p l (rdTxt 2000 l s).2 ∧ Fq p w w' := by
  have HD := hide (rtextcol_any p l s w h)
  generalize rdTxt 2000 l s = r at *
  obtain ⟨r1, r2⟩ := r
  clear h
  go_enter Tryz.func70, Tryz.ntmps70
  go_wp2_with (first | (go_at_call 61; refine (unhide HD).mono ?_; rintro e w2 ⟨rfl, hr2, hf2⟩))
  go_ret
  exact ⟨rfl, hr2, hf2⟩

set_option maxHeartbeats 3200000 in
set_option maxRecDepth 100000 in
theorem rvals_ok (p n a : Nat) (l : List UInt8) (s : Except Nat Nat) (w : World) (h : RS w p l s) (hs : rdBetween l 0 64 s = ((n : Int), .ok a)) (hn : n ≤ 64) :
    Calls Tryz.prog 82 #[.pointer (some ⟨p, 0, none⟩), .int .i64 64, .func (.func 83) #[.pointer (some ⟨p, 0, none⟩)] #[]] w fun e w' =>
      RS w' p l (rdN rdVal l n (.ok a)).2 ∧ Fq p w w' ∧ ∃ va vm vk, e = .returned (.slice va vm vk) ∧ (∀ b, (rdN rdVal l n (.ok a)).2 = .ok b → w'.ownsRow w.heap.size 143 3 (.slice va vm vk) (rdN rdVal l n (.ok a)).1.length (gvsCells (rdN rdVal l n (.ok a)).1)) := by
  obtain ⟨i0, hi, hz0, hz1, hz2⟩ := info_parts Tryz.infoV
  have hp := h.lt
  have HB := hide (rbetween_any p 0 64 l s w h (by omega) (by omega) (by omega))
  rw [hs] at HB
  clear h hs
  go_enter Tryz.func82, Tryz.ntmps82
  go_wp2_with (first | (go_at_call 54; refine (unhide HB).mono ?_; rintro e w1 ⟨rfl, hr1, hf1⟩))
  clear HB
  go_loopw [7, 12] (fun v i wr => ∃ k b : Nat, k ≤ n ∧ i = .int .i64 k ∧ (rdN rdVal l k (.ok a)).2 = .ok b ∧ (rdN rdVal l k (.ok a)).1.length = k ∧ RS wr p l (.ok b) ∧ wr.ownsRow w.heap.size 143 3 v k (gvsCells (rdN rdVal l k (.ok a)).1) ∧ Fq p w wr) (fun _ i _ => n - (intOf i).toNat)
  case atStart => exact ⟨0, a, Nat.zero_le _, rfl, rfl, rfl, hr1, World.ownsRow_nil _ _ _ _, hf1⟩
  case round =>
    obtain ⟨k, b, hk, rfl, hst, hkl, hrs, hown, hbw⟩ := hrel
    by_cases hlt : k < n
    · have HV := hide (rval_any p l (.ok b) wr hrs)
      cases hv2 : (rdVal l (.ok b)).2 with
      | error c =>
        have hfin : (rdN rdVal l (k + 1) (.ok a)).2 = .error c := by simp [rdN, hst, hv2]
        have HE := hide (rdN_err hfin (show k + 1 ≤ n by omega))
        rw [hv2] at HV
        generalize (rdVal l (.ok b)).1 = g at *
        clear hrs hown hst hkl hfin
        unfold GV.agg at HV
        go_wp2_with (first | (go_at_call 83; refine (unhide HV).mono ?_; rintro e w2 ⟨rfl, hr2, hf2⟩; obtain ⟨b2, k2⟩ := hr2.cells_err; have hp2 := hr2.lt))
        go_ret
        rw [unhide HE]
        exact ⟨hr2.alloc _, (hbw.trans hf2).alloc (by omega) _, _, _, _, rfl, fun b h => by cases h⟩
      | ok b' =>
        have hfin : (rdN rdVal l (k + 1) (.ok a)).2 = .ok b' := by simp [rdN, hst, hv2]
        have hfi1 : (rdN rdVal l (k + 1) (.ok a)).1 = (rdN rdVal l k (.ok a)).1 ++ [(rdVal l (.ok b)).1] := by simp [rdN, hst, hv2]
        have HF := hide hfin
        have HF1 := hide hfi1
        rw [hv2] at HV
        have HK := hide hkl
        generalize (rdN rdVal l k (.ok a)).1 = gs at *
        generalize (rdVal l (.ok b)).1 = g at *
        have HO := hide hown
        clear hrs hst hfin hfi1 hkl hown hv2
        unfold GV.agg at HV
        go_wp2_with (first
          | (go_at_call 83; refine (unhide HV).mono ?_; rintro e w2 ⟨rfl, hr2, hf2⟩; obtain ⟨k1, k2, _⟩ := hr2.cells_ok; have hp2 := hr2.lt; have hz := hbw.1.size; have hz' := hf2.1.size; have ho2 := ((own_hi (unhide HO) (Hi.of_fq hf2 hp)).alloc (.cells #[.int .i64 g.kind, .int .i64 g.int, .string g.text] 143)).alloc (.cells #[.int .i64 g.kind, .int .i64 g.int, .string g.text] 143))
          | (at_builtin; refine wpList_append_own _ rfl (.tmp 21) (.tmp 23) 115 rfl w.heap.size 143 i0 _ 3 32 Tryz.underlying115 hi hz0 hz1 hz2 rfl (by decide) _ _ _ rfl ho2 ⟨w2.heap.size + 1, 0, none⟩ 1 1 (gvCells g) rfl rfl ?_ (three_cell g) (by unfold maxLen; omega) (by omega) (by simp; omega) ?_))
        · intro j v hj
          have := three_new (w2.alloc (.cells #[.int .i64 g.kind, .int .i64 g.int, .string g.text] 143)) g 143 j v hj
          rwa [World.size_alloc] at this
        · intro v' w3 ho3 hg3 _
          have hb3 : Below (p + 1) w2 w3 := (((Below.refl (p + 1) w2).alloc (by omega) _).alloc (by simp; omega) _).grown hg3 (by simp; omega) (fun k hk => by have := own_block_ge ho2 k hk; omega)
          have hq3 : Fq p w w3 := Fq.grown (((hbw.trans hf2).alloc (by omega) _).alloc (by simp; omega) _) hg3 (own_block_ge ho2) hp
          have hr3 := hr2.ok_below hb3
          clear hg3 ho2 HV HO
          go_wp2
          go_roundw
          case rel => exact ⟨k + 1, b', by omega, by go_num, unhide HF, by rw [unhide HF1, List.length_append, unhide HK]; rfl, hr3, by rw [unhide HF1, gvsCells_snoc]; exact ho3, hq3⟩
          case measure => simp [intOf]; omega
    · have e : k = n := by omega
      subst e
      obtain ⟨va, vk, rfl⟩ := own_slice hown
      have HO := hide hown
      have HK := hide hkl
      have HS := hide hst
      clear hown hkl hst
      go_wp2
      go_ret
      rw [unhide HS]
      exact ⟨hrs, hbw, _, _, _, rfl, fun b _ => by rw [unhide HK]; exact unhide HO⟩

set_option maxHeartbeats 3200000 in
theorem rvals_err (p c : Nat) (l : List UInt8) (s : Except Nat Nat) (w : World) (h : RS w p l s) (hs : rdBetween l 0 64 s = (0, .error c)) :
    Calls Tryz.prog 82 #[.pointer (some ⟨p, 0, none⟩), .int .i64 64, .func (.func 83) #[.pointer (some ⟨p, 0, none⟩)] #[]] w fun e w' =>
      RS w' p l (.error c) ∧ Fq p w w' ∧ e = .returned (.slice none 0 0) := by
  have HB := hide (rbetween_any p 0 64 l s w h (by omega) (by omega) (by omega))
  rw [hs] at HB
  clear h hs
  go_enter Tryz.func82, Tryz.ntmps82
  go_wp2_with (first | (go_at_call 54; refine (unhide HB).mono ?_; rintro e w1 ⟨rfl, hr1, hf1⟩))
  clear HB
  refine wp_loop_rounds 1 ?_
  rw [rounds_succ]
  go_wp2
  go_ret
  exact ⟨hr1, hf1, rfl⟩

theorem rvals_any (p : Nat) (l : List UInt8) (s : Except Nat Nat) (w : World) (h : RS w p l s) :
    Calls Tryz.prog 82 #[.pointer (some ⟨p, 0, none⟩), .int .i64 64, .func (.func 83) #[.pointer (some ⟨p, 0, none⟩)] #[]] w fun e w' =>
      RS w' p l (rdList rdVal 64 l s).2 ∧ Fq p w w' ∧ ∃ va vm vk, e = .returned (.slice va vm vk) ∧ (∀ b, (rdList rdVal 64 l s).2 = .ok b → w'.ownsRow w.heap.size 143 3 (.slice va vm vk) (rdList rdVal 64 l s).1.length (gvsCells (rdList rdVal 64 l s).1)) := by
  cases hb : (rdBetween l 0 64 s).2 with
  | error c =>
    have e : rdList rdVal 64 l s = ([], .error c) := by
      have hb' : (rdBetween l 0 ((64 : Nat) : Int) s).2 = .error c := hb
      simp only [rdList, hb']
    rw [e]
    refine (rvals_err p c l s w h (rdBetween_err hb)).mono ?_
    rintro e w' ⟨h1, h2, rfl⟩
    exact ⟨h1, h2, _, _, _, rfl, fun b h => by cases h⟩
  | ok a =>
    obtain ⟨n, hn, hn2⟩ := rdBetween_ok (by omega) hb
    have hn3 : rdBetween l 0 64 s = ((n : Int), .ok a) := by rw [hn]; simp
    have e : rdList rdVal 64 l s = rdN rdVal l n (.ok a) := by
      have hn4 : rdBetween l 0 ((64 : Nat) : Int) s = ((n : Int), .ok a) := hn3
      simp only [rdList, hn4, Int.toNat_natCast]
    rw [e]; exact rvals_ok p n a l s w h hn3 (by omega)

set_option maxHeartbeats 3200000 in
set_option maxRecDepth 100000 in
theorem rents_ok (p n a : Nat) (l : List UInt8) (s : Except Nat Nat) (w : World) (h : RS w p l s) (hs : rdBetween l 0 1000 s = ((n : Int), .ok a)) (hn : n ≤ 1000) :
    Calls Tryz.prog 56 #[.pointer (some ⟨p, 0, none⟩), .int .i64 1000, .func (.func 57) #[.pointer (some ⟨p, 0, none⟩)] #[]] w fun e w' =>
      RS w' p l (rdN rdEnt l n (.ok a)).2 ∧ Fq p w w' ∧ ∃ va vm vk, e = .returned (.slice va vm vk) ∧ (∀ b, (rdN rdEnt l n (.ok a)).2 = .ok b → w'.ownsRow w.heap.size 74 5 (.slice va vm vk) (rdN rdEnt l n (.ok a)).1.length (geListCells (rdN rdEnt l n (.ok a)).1)) := by
  obtain ⟨i0, hi, hz0, hz1, hz2⟩ := info_parts Tryz.infoE
  have hp := h.lt
  have HB := hide (rbetween_any p 0 1000 l s w h (by omega) (by omega) (by omega))
  rw [hs] at HB
  clear h hs
  go_enter Tryz.func56, Tryz.ntmps56
  go_wp2_with (first | (go_at_call 54; refine (unhide HB).mono ?_; rintro e w1 ⟨rfl, hr1, hf1⟩))
  clear HB
  go_loopw [7, 12] (fun v i wr => ∃ k b : Nat, k ≤ n ∧ i = .int .i64 k ∧ (rdN rdEnt l k (.ok a)).2 = .ok b ∧ (rdN rdEnt l k (.ok a)).1.length = k ∧ RS wr p l (.ok b) ∧ wr.ownsRow w.heap.size 74 5 v k (geListCells (rdN rdEnt l k (.ok a)).1) ∧ Fq p w wr) (fun _ i _ => n - (intOf i).toNat)
  case atStart => exact ⟨0, a, Nat.zero_le _, rfl, rfl, rfl, hr1, World.ownsRow_nil _ _ _ _, hf1⟩
  case round =>
    obtain ⟨k, b, hk, rfl, hst, hkl, hrs, hown, hbw⟩ := hrel
    by_cases hlt : k < n
    · have HV := hide (rentry_any p l (.ok b) wr hrs)
      cases hv2 : (rdEnt l (.ok b)).2 with
      | error c =>
        have hfin : (rdN rdEnt l (k + 1) (.ok a)).2 = .error c := by simp [rdN, hst, hv2]
        have HE := hide (rdN_err hfin (show k + 1 ≤ n by omega))
        rw [hv2] at HV
        generalize (rdEnt l (.ok b)).1 = g at *
        clear hrs hown hst hkl hfin
        unfold GE.agg GE.cells at HV
        go_wp2_with (first | (go_at_call 57; refine (unhide HV).mono ?_; rintro e w2 ⟨rfl, hr2, hf2⟩; obtain ⟨b2, k2⟩ := hr2.cells_err; have hp2 := hr2.lt))
        go_ret
        rw [unhide HE]
        exact ⟨hr2.alloc _, (hbw.trans hf2).alloc (by omega) _, _, _, _, rfl, fun b h => by cases h⟩
      | ok b' =>
        have hfin : (rdN rdEnt l (k + 1) (.ok a)).2 = .ok b' := by simp [rdN, hst, hv2]
        have hfi1 : (rdN rdEnt l (k + 1) (.ok a)).1 = (rdN rdEnt l k (.ok a)).1 ++ [(rdEnt l (.ok b)).1] := by simp [rdN, hst, hv2]
        have HF := hide hfin
        have HF1 := hide hfi1
        rw [hv2] at HV
        have HK := hide hkl
        generalize (rdN rdEnt l k (.ok a)).1 = gs at *
        generalize (rdEnt l (.ok b)).1 = g at *
        have HO := hide hown
        clear hrs hst hfin hfi1 hkl hown hv2
        unfold GE.agg GE.cells at HV
        go_wp2_with (first
          | (go_at_call 57; refine (unhide HV).mono ?_; rintro e w2 ⟨rfl, hr2, hf2⟩; obtain ⟨k1, k2, _⟩ := hr2.cells_ok; have hp2 := hr2.lt; have hz := hbw.1.size; have hz' := hf2.1.size; have ho2 := ((own_hi (unhide HO) (Hi.of_fq hf2 hp)).alloc (.cells #[.int .u64 g.term, .int .i64 g.kind, .int .u64 g.client, .int .u64 g.seq, .string g.sql] 74)).alloc (.cells #[.int .u64 g.term, .int .i64 g.kind, .int .u64 g.client, .int .u64 g.seq, .string g.sql] 74))
          | (at_builtin; refine wpList_append_own _ rfl (.tmp 21) (.tmp 23) 33 rfl w.heap.size 74 i0 _ 5 48 Tryz.underlying33 hi hz0 hz1 hz2 rfl (by decide) _ _ _ rfl ho2 ⟨w2.heap.size + 1, 0, none⟩ 1 1 (geCells g) rfl rfl ?_ (five_cell g) (by unfold maxLen; omega) (by omega) (by simp; omega) ?_))
        · intro j v hj
          have := five_new (w2.alloc (.cells #[.int .u64 g.term, .int .i64 g.kind, .int .u64 g.client, .int .u64 g.seq, .string g.sql] 74)) g 74 j v hj
          rwa [World.size_alloc] at this
        · intro v' w3 ho3 hg3 _
          have hb3 : Below (p + 1) w2 w3 := (((Below.refl (p + 1) w2).alloc (by omega) _).alloc (by simp; omega) _).grown hg3 (by simp; omega) (fun k hk => by have := own_block_ge ho2 k hk; omega)
          have hq3 : Fq p w w3 := Fq.grown (((hbw.trans hf2).alloc (by omega) _).alloc (by simp; omega) _) hg3 (own_block_ge ho2) hp
          have hr3 := hr2.ok_below hb3
          clear hg3 ho2 HV HO
          go_wp2
          go_roundw
          case rel => exact ⟨k + 1, b', by omega, by go_num, unhide HF, by rw [unhide HF1, List.length_append, unhide HK]; rfl, hr3, by rw [unhide HF1, geList_snoc]; exact ho3, hq3⟩
          case measure => simp [intOf]; omega
    · have e : k = n := by omega
      subst e
      obtain ⟨va, vk, rfl⟩ := own_slice hown
      have HO := hide hown
      have HK := hide hkl
      have HS := hide hst
      clear hown hkl hst
      go_wp2
      go_ret
      rw [unhide HS]
      exact ⟨hrs, hbw, _, _, _, rfl, fun b _ => by rw [unhide HK]; exact unhide HO⟩

set_option maxHeartbeats 3200000 in
theorem rents_err (p c : Nat) (l : List UInt8) (s : Except Nat Nat) (w : World) (h : RS w p l s) (hs : rdBetween l 0 1000 s = (0, .error c)) :
    Calls Tryz.prog 56 #[.pointer (some ⟨p, 0, none⟩), .int .i64 1000, .func (.func 57) #[.pointer (some ⟨p, 0, none⟩)] #[]] w fun e w' =>
      RS w' p l (.error c) ∧ Fq p w w' ∧ e = .returned (.slice none 0 0) := by
  have HB := hide (rbetween_any p 0 1000 l s w h (by omega) (by omega) (by omega))
  rw [hs] at HB
  clear h hs
  go_enter Tryz.func56, Tryz.ntmps56
  go_wp2_with (first | (go_at_call 54; refine (unhide HB).mono ?_; rintro e w1 ⟨rfl, hr1, hf1⟩))
  clear HB
  refine wp_loop_rounds 1 ?_
  rw [rounds_succ]
  go_wp2
  go_ret
  exact ⟨hr1, hf1, rfl⟩

theorem rents_any (p : Nat) (l : List UInt8) (s : Except Nat Nat) (w : World) (h : RS w p l s) :
    Calls Tryz.prog 56 #[.pointer (some ⟨p, 0, none⟩), .int .i64 1000, .func (.func 57) #[.pointer (some ⟨p, 0, none⟩)] #[]] w fun e w' =>
      RS w' p l (rdList rdEnt 1000 l s).2 ∧ Fq p w w' ∧ ∃ va vm vk, e = .returned (.slice va vm vk) ∧ (∀ b, (rdList rdEnt 1000 l s).2 = .ok b → w'.ownsRow w.heap.size 74 5 (.slice va vm vk) (rdList rdEnt 1000 l s).1.length (geListCells (rdList rdEnt 1000 l s).1)) := by
  cases hb : (rdBetween l 0 1000 s).2 with
  | error c =>
    have e : rdList rdEnt 1000 l s = ([], .error c) := by
      have hb' : (rdBetween l 0 ((1000 : Nat) : Int) s).2 = .error c := hb
      simp only [rdList, hb']
    rw [e]
    refine (rents_err p c l s w h (rdBetween_err hb)).mono ?_
    rintro e w' ⟨h1, h2, rfl⟩
    exact ⟨h1, h2, _, _, _, rfl, fun b h => by cases h⟩
  | ok a =>
    obtain ⟨n, hn, hn2⟩ := rdBetween_ok (by omega) hb
    have hn3 : rdBetween l 0 1000 s = ((n : Int), .ok a) := by rw [hn]; simp
    have e : rdList rdEnt 1000 l s = rdN rdEnt l n (.ok a) := by
      have hn4 : rdBetween l 0 ((1000 : Nat) : Int) s = ((n : Int), .ok a) := hn3
      simp only [rdList, hn4, Int.toNat_natCast]
    rw [e]; exact rents_ok p n a l s w h hn3 (by omega)

set_option maxHeartbeats 3200000 in
set_option maxRecDepth 100000 in
theorem rcols_ok (p n a : Nat) (l : List UInt8) (s : Except Nat Nat) (w : World) (h : RS w p l s) (hs : rdBetween l 0 64 s = ((n : Int), .ok a)) (hn : n ≤ 64) :
    Calls Tryz.prog 69 #[.pointer (some ⟨p, 0, none⟩), .int .i64 64, .func (.func 70) #[.pointer (some ⟨p, 0, none⟩)] #[]] w fun e w' =>
      RS w' p l (rdN (rdTxt 2000) l n (.ok a)).2 ∧ Fq p w w' ∧ ∃ va vm vk, e = .returned (.slice va vm vk) ∧ (∀ b, (rdN (rdTxt 2000) l n (.ok a)).2 = .ok b → w'.ownsRow w.heap.size 9 1 (.slice va vm vk) (rdN (rdTxt 2000) l n (.ok a)).1.length (strListCells (rdN (rdTxt 2000) l n (.ok a)).1)) := by
  obtain ⟨i0, hi, hz0, hz1, hz2⟩ := info_parts Tryz.infoS
  have hp := h.lt
  have HB := hide (rbetween_any p 0 64 l s w h (by omega) (by omega) (by omega))
  rw [hs] at HB
  clear h hs
  go_enter Tryz.func69, Tryz.ntmps69
  go_wp2_with (first | (go_at_call 54; refine (unhide HB).mono ?_; rintro e w1 ⟨rfl, hr1, hf1⟩))
  clear HB
  go_loopw [7, 12] (fun v i wr => ∃ k b : Nat, k ≤ n ∧ i = .int .i64 k ∧ (rdN (rdTxt 2000) l k (.ok a)).2 = .ok b ∧ (rdN (rdTxt 2000) l k (.ok a)).1.length = k ∧ RS wr p l (.ok b) ∧ wr.ownsRow w.heap.size 9 1 v k (strListCells (rdN (rdTxt 2000) l k (.ok a)).1) ∧ Fq p w wr) (fun _ i _ => n - (intOf i).toNat)
  case atStart => exact ⟨0, a, Nat.zero_le _, rfl, rfl, rfl, hr1, World.ownsRow_nil _ _ _ _, hf1⟩
  case round =>
    obtain ⟨k, b, hk, rfl, hst, hkl, hrs, hown, hbw⟩ := hrel
    by_cases hlt : k < n
    · have HV := hide (rcol_any p l (.ok b) wr hrs)
      cases hv2 : ((rdTxt 2000) l (.ok b)).2 with
      | error c =>
        have hfin : (rdN (rdTxt 2000) l (k + 1) (.ok a)).2 = .error c := by simp [rdN, hst, hv2]
        have HE := hide (rdN_err hfin (show k + 1 ≤ n by omega))
        rw [hv2] at HV
        generalize ((rdTxt 2000) l (.ok b)).1 = g at *
        clear hrs hown hst hkl hfin
        skip
        go_wp2_with (first | (go_at_call 70; refine (unhide HV).mono ?_; rintro e w2 ⟨rfl, hr2, hf2⟩; obtain ⟨b2, k2⟩ := hr2.cells_err; have hp2 := hr2.lt))
        go_ret
        rw [unhide HE]
        exact ⟨hr2, (hbw.trans hf2), _, _, _, rfl, fun b h => by cases h⟩
      | ok b' =>
        have hfin : (rdN (rdTxt 2000) l (k + 1) (.ok a)).2 = .ok b' := by simp [rdN, hst, hv2]
        have hfi1 : (rdN (rdTxt 2000) l (k + 1) (.ok a)).1 = (rdN (rdTxt 2000) l k (.ok a)).1 ++ [((rdTxt 2000) l (.ok b)).1] := by simp [rdN, hst, hv2]
        have HF := hide hfin
        have HF1 := hide hfi1
        rw [hv2] at HV
        have HK := hide hkl
        generalize (rdN (rdTxt 2000) l k (.ok a)).1 = gs at *
        generalize ((rdTxt 2000) l (.ok b)).1 = g at *
        have HO := hide hown
        clear hrs hst hfin hfi1 hkl hown hv2
        skip
        go_wp2_with (first
          | (go_at_call 70; refine (unhide HV).mono ?_; rintro e w2 ⟨rfl, hr2, hf2⟩; obtain ⟨k1, k2, _⟩ := hr2.cells_ok; have hp2 := hr2.lt; have hz := hbw.1.size; have hz' := hf2.1.size; have ho2 := (own_hi (unhide HO) (Hi.of_fq hf2 hp)).alloc (.cells #[.string g] 9))
          | (at_builtin; refine wpList_append_own _ rfl (.tmp 21) (.tmp 23) 36 rfl w.heap.size 9 i0 _ 1 16 Tryz.underlying36 hi hz0 hz1 hz2 rfl (by decide) _ _ _ rfl ho2 ⟨w2.heap.size, 0, none⟩ 1 1 ([.string g]) rfl rfl ?_ (by intro u hu; simp at hu; subst hu; rfl) (by unfold maxLen; omega) (by omega) (by simp; omega) ?_))
        · exact one_any w2 _ 9
        · intro v' w3 ho3 hg3 _
          have hb3 : Below (p + 1) w2 w3 := ((Below.refl (p + 1) w2).alloc (by omega) _).grown hg3 (by simp; omega) (fun k hk => by have := own_block_ge ho2 k hk; omega)
          have hq3 : Fq p w w3 := Fq.grown ((hbw.trans hf2).alloc (by omega) _) hg3 (own_block_ge ho2) hp
          have hr3 := hr2.ok_below hb3
          clear hg3 ho2 HV HO
          go_wp2
          go_roundw
          case rel => exact ⟨k + 1, b', by omega, by go_num, unhide HF, by rw [unhide HF1, List.length_append, unhide HK]; rfl, hr3, by rw [unhide HF1, strList_snoc]; exact ho3, hq3⟩
          case measure => simp [intOf]; omega
    · have e : k = n := by omega
      subst e
      obtain ⟨va, vk, rfl⟩ := own_slice hown
      have HO := hide hown
      have HK := hide hkl
      have HS := hide hst
      clear hown hkl hst
      go_wp2
      go_ret
      rw [unhide HS]
      exact ⟨hrs, hbw, _, _, _, rfl, fun b _ => by rw [unhide HK]; exact unhide HO⟩

set_option maxHeartbeats 3200000 in
theorem rcols_err (p c : Nat) (l : List UInt8) (s : Except Nat Nat) (w : World) (h : RS w p l s) (hs : rdBetween l 0 64 s = (0, .error c)) :
    Calls Tryz.prog 69 #[.pointer (some ⟨p, 0, none⟩), .int .i64 64, .func (.func 70) #[.pointer (some ⟨p, 0, none⟩)] #[]] w fun e w' =>
      RS w' p l (.error c) ∧ Fq p w w' ∧ e = .returned (.slice none 0 0) := by
  have HB := hide (rbetween_any p 0 64 l s w h (by omega) (by omega) (by omega))
  rw [hs] at HB
  clear h hs
  go_enter Tryz.func69, Tryz.ntmps69
  go_wp2_with (first | (go_at_call 54; refine (unhide HB).mono ?_; rintro e w1 ⟨rfl, hr1, hf1⟩))
  clear HB
  refine wp_loop_rounds 1 ?_
  rw [rounds_succ]
  go_wp2
  go_ret
  exact ⟨hr1, hf1, rfl⟩

theorem rcols_any (p : Nat) (l : List UInt8) (s : Except Nat Nat) (w : World) (h : RS w p l s) :
    Calls Tryz.prog 69 #[.pointer (some ⟨p, 0, none⟩), .int .i64 64, .func (.func 70) #[.pointer (some ⟨p, 0, none⟩)] #[]] w fun e w' =>
      RS w' p l (rdList (rdTxt 2000) 64 l s).2 ∧ Fq p w w' ∧ ∃ va vm vk, e = .returned (.slice va vm vk) ∧ (∀ b, (rdList (rdTxt 2000) 64 l s).2 = .ok b → w'.ownsRow w.heap.size 9 1 (.slice va vm vk) (rdList (rdTxt 2000) 64 l s).1.length (strListCells (rdList (rdTxt 2000) 64 l s).1)) := by
  cases hb : (rdBetween l 0 64 s).2 with
  | error c =>
    have e : rdList (rdTxt 2000) 64 l s = ([], .error c) := by
      have hb' : (rdBetween l 0 ((64 : Nat) : Int) s).2 = .error c := hb
      simp only [rdList, hb']
    rw [e]
    refine (rcols_err p c l s w h (rdBetween_err hb)).mono ?_
    rintro e w' ⟨h1, h2, rfl⟩
    exact ⟨h1, h2, _, _, _, rfl, fun b h => by cases h⟩
  | ok a =>
    obtain ⟨n, hn, hn2⟩ := rdBetween_ok (by omega) hb
    have hn3 : rdBetween l 0 64 s = ((n : Int), .ok a) := by rw [hn]; simp
    have e : rdList (rdTxt 2000) 64 l s = rdN (rdTxt 2000) l n (.ok a) := by
      have hn4 : rdBetween l 0 ((64 : Nat) : Int) s = ((n : Int), .ok a) := hn3
      simp only [rdList, hn4, Int.toNat_natCast]
    rw [e]; exact rcols_ok p n a l s w h hn3 (by omega)

set_option maxHeartbeats 1600000 in
theorem rrow_p (p : Nat) (l : List UInt8) (s : Except Nat Nat) (w : World) (h : RS w p l s) :
    Calls Tryz.prog 72 #[.pointer (some ⟨p, 0, none⟩)] w fun e w' =>
      ∃ v, e = .returned v ∧ RS w' p l (rdRow' l s).2 ∧ Fq p w w' ∧ (∀ b, (rdRow' l s).2 = .ok b → w'.ownsRow w.heap.size 143 3 v (rdRow' l s).1.length (gvsCells (rdRow' l s).1)) := by
  have hmf : ∀ (fn : Fn) (first cap : Array Value) (w : World), (Instr.makeFunc fn first cap).run Tryz.prog w = .ok (.func fn first cap) w := fun _ _ _ _ => rfl
  have HL := hide (rvals_any p l s w h)
  show Calls Tryz.prog 72 #[.pointer (some ⟨p, 0, none⟩)] w fun e w' =>
      ∃ v, e = .returned v ∧ RS w' p l (rdList rdVal 64 l s).2 ∧ Fq p w w' ∧ (∀ b, (rdList rdVal 64 l s).2 = .ok b → w'.ownsRow w.heap.size 143 3 v (rdList rdVal 64 l s).1.length (gvsCells (rdList rdVal 64 l s).1))
  generalize rdList rdVal 64 l s = r at *
  clear h
  go_enter Tryz.func72, Tryz.ntmps72
  go_wp2_with (first | (go_at_call 82; refine (unhide HL).mono ?_; rintro e w1 ⟨hr1, hb1, va, vm, vk, rfl, ho1⟩; have HO := hide ho1; clear ho1))
  go_ret
  exact ⟨_, rfl, hr1, hb1, unhide HO⟩

theorem OwR.snoc {w2 w3 : World} {B : Nat} {v' u : Value} {rs : List (List GV)} {gs : List GV} {vs : List Value} (h1 : vs.length = rs.length) (h3 : ∀ (i : Nat) (u : Value) (gs : List GV), vs[i]? = some u → rs[i]? = some gs → w2.ownsRow B 143 3 u gs.length (gvsCells gs))
    (hu : w2.ownsRow B 143 3 u gs.length (gvsCells gs)) (hk : KeepT 115 w2 w3) (ho : w3.ownsRow B 115 1 v' (rs.length + 1) (vs ++ [u])) : OwR w3 B v' (rs ++ [gs]) := by
  refine ⟨vs ++ [u], by simp [h1], by simpa using ho, fun i x y hx hy => ?_⟩
  rcases Nat.lt_or_ge i vs.length with hi | hi
  · rw [List.getElem?_append_left hi] at hx
    rw [List.getElem?_append_left (by omega)] at hy
    exact own_keepT (h3 i x y hx hy) hk (by decide)
  · rw [List.getElem?_append_right hi] at hx
    rw [List.getElem?_append_right (by omega)] at hy
    have e1 : i - vs.length = 0 := by
      rcases Nat.eq_zero_or_pos (i - vs.length) with h | h
      · exact h
      · rw [List.getElem?_eq_none (by simp; omega)] at hx; cases hx
    have e2 : i - rs.length = 0 := by omega
    rw [e1] at hx
    rw [e2] at hy
    simp at hx hy
    subst hx hy
    exact own_keepT hu hk (by decide)

set_option maxHeartbeats 3200000 in
set_option maxRecDepth 100000 in
theorem rrows_ok (p n a : Nat) (l : List UInt8) (s : Except Nat Nat) (w : World) (h : RS w p l s) (hs : rdBetween l 0 20000 s = ((n : Int), .ok a)) (hn : n ≤ 20000) :
    Calls Tryz.prog 71 #[.pointer (some ⟨p, 0, none⟩), .int .i64 20000, .func (.func 72) #[.pointer (some ⟨p, 0, none⟩)] #[]] w fun e w' =>
      RS w' p l (rdN rdRow' l n (.ok a)).2 ∧ Fq p w w' ∧ ∃ va vm vk, e = .returned (.slice va vm vk) ∧ (∀ b, (rdN rdRow' l n (.ok a)).2 = .ok b → OwR w' w.heap.size (.slice va vm vk) (rdN rdRow' l n (.ok a)).1) := by
  obtain ⟨i0, hi, hz0, hz1, hz2⟩ := info_parts Tryz.infoR
  have hp := h.lt
  have HB := hide (rbetween_any p 0 20000 l s w h (by omega) (by omega) (by omega))
  rw [hs] at HB
  clear h hs
  generalize hRR : rdRow' = RR at *
  have HRow : Hid (∀ (W : World) (s : Except Nat Nat), RS W p l s → Calls Tryz.prog 72 #[.pointer (some ⟨p, 0, none⟩)] W fun e w' => ∃ v, e = .returned v ∧ RS w' p l (RR l s).2 ∧ Fq p W w' ∧ (∀ b, (RR l s).2 = .ok b → w'.ownsRow W.heap.size 143 3 v (RR l s).1.length (gvsCells (RR l s).1))) := by
    subst hRR
    exact fun W s hW => rrow_p p l s W hW
  clear hRR
  go_enter Tryz.func71, Tryz.ntmps71
  go_wp2_with (first | (go_at_call 54; refine (unhide HB).mono ?_; rintro e w1 ⟨rfl, hr1, hf1⟩))
  clear HB
  go_loopw [7, 12] (fun v i wr => ∃ k b : Nat, k ≤ n ∧ i = .int .i64 k ∧ (rdN RR l k (.ok a)).2 = .ok b ∧ (rdN RR l k (.ok a)).1.length = k ∧ RS wr p l (.ok b) ∧ OwR wr w.heap.size v (rdN RR l k (.ok a)).1 ∧ Fq p w wr) (fun _ i _ => n - (intOf i).toNat)
  case atStart => exact ⟨0, a, Nat.zero_le _, rfl, rfl, rfl, hr1, ⟨[], rfl, World.ownsRow_nil _ _ _ _, fun i u gs hu => by simp at hu⟩, hf1⟩
  case round =>
    obtain ⟨k, b, hk, rfl, hst, hkl, hrs, hown, hbw⟩ := hrel
    by_cases hlt : k < n
    · have HV := hide (unhide HRow wr (.ok b) hrs)
      cases hv2 : (RR l (.ok b)).2 with
      | error c =>
        have hfin : (rdN RR l (k + 1) (.ok a)).2 = .error c := by simp [rdN, hst, hv2]
        have HE := hide (rdN_err hfin (show k + 1 ≤ n by omega))
        rw [hv2] at HV
        generalize (RR l (.ok b)).1 = g at *
        clear hrs hown hst hkl hfin
        go_wp2_with (first | (go_at_call 72; refine (unhide HV).mono ?_; rintro e w2 ⟨u, rfl, hr2, hf2, _⟩; obtain ⟨b2, k2⟩ := hr2.cells_err; have hp2 := hr2.lt))
        go_ret
        rw [unhide HE]
        exact ⟨hr2, (hbw.trans hf2), _, _, _, rfl, fun b h => by cases h⟩
      | ok b' =>
        have hfin : (rdN RR l (k + 1) (.ok a)).2 = .ok b' := by simp [rdN, hst, hv2]
        have hfi1 : (rdN RR l (k + 1) (.ok a)).1 = (rdN RR l k (.ok a)).1 ++ [(RR l (.ok b)).1] := by simp [rdN, hst, hv2]
        have HF := hide hfin
        have HF1 := hide hfi1
        rw [hv2] at HV
        have HK := hide hkl
        generalize (rdN RR l k (.ok a)).1 = gs at *
        generalize (RR l (.ok b)).1 = g at *
        obtain ⟨vs, o1, o2, o3⟩ := hown
        rw [unhide HK] at o1 o2
        have O2 := hide o2
        have O3 := hide o3
        have O1 := hide o1
        clear hrs hst hfin hfi1 hkl o1 o2 o3 hv2
        go_wp2_with (first
          | (go_at_call 72; refine (unhide HV).mono ?_; rintro e w2 ⟨u, rfl, hr2, hf2, hu0⟩; obtain ⟨ua, uk, hus⟩ := own_slice (hu0 b' rfl); subst hus; have hu := hide (hu0 b' rfl); clear hu0; obtain ⟨k1, k2, _⟩ := hr2.cells_ok; have hp2 := hr2.lt; have hz := hbw.1.size; have hz' := hf2.1.size; have ho2 := (own_hi (unhide O2) (Hi.of_fq hf2 hp)).alloc (.cells #[.slice ua g.length uk] 115))
          | (at_builtin; refine wpList_append_own _ rfl (.tmp 21) (.tmp 23) 37 rfl w.heap.size 115 i0 _ 1 24 Tryz.underlying37 hi hz0 hz1 hz2 rfl (by decide) _ _ _ rfl ho2 ⟨w2.heap.size, 0, none⟩ 1 1 [.slice ua g.length uk] rfl rfl ?_ (by intro u hu; simp at hu; subst hu; rfl) (by unfold maxLen; omega) (by omega) (by simp; omega) ?_))
        · exact one_any w2 _ 115
        · intro v' w3 ho3 hg3 _
          have hb3 : Below (p + 1) w2 w3 := ((Below.refl (p + 1) w2).alloc (by omega) _).grown hg3 (by simp; omega) (fun k hk => by have := own_block_ge ho2 k hk; omega)
          have hq3 : Fq p w w3 := Fq.grown ((hbw.trans hf2).alloc (by omega) _) hg3 (own_block_ge ho2) hp
          have hr3 := hr2.ok_below hb3
          have hR3 : OwR w3 w.heap.size v' (gs ++ [g]) := by
            have HA : Hi w.heap.size wr (w2.alloc (.cells #[.slice ua g.length uk] 115)) := (Hi.of_fq hf2 hp).alloc _
            refine OwR.snoc (w2 := w2.alloc (.cells #[.slice ua g.length uk] 115)) (vs := vs) (u := .slice ua g.length uk) ?_ (fun i x y hx hy => own_hi (unhide O3 i x y hx hy) HA) ?_ (KeepT.of_grown ho2 hg3) ?_
            · rw [unhide O1, unhide HK]
            · exact (own_weaker hz (unhide hu)).alloc _
            · rw [unhide HK]; exact ho3
          clear hg3 ho2 ho3 HV O2 O3 hu
          go_wp2
          go_roundw
          case rel => exact ⟨k + 1, b', by omega, by go_num, unhide HF, by rw [unhide HF1, List.length_append, unhide HK]; rfl, hr3, by rw [unhide HF1]; exact hR3, hq3⟩
          case measure => simp [intOf]; omega
    · have e : k = n := by omega
      subst e
      obtain ⟨vs, o1, o2, o3⟩ := hown
      obtain ⟨va, vk, hv⟩ := own_slice o2
      subst hv
      have HO := hide (show OwR _ _ _ _ from ⟨vs, o1, o2, o3⟩)
      clear o1 o2 o3
      have HS := hide hst
      clear hkl hst
      go_wp2
      go_ret
      rw [unhide HS]
      exact ⟨hrs, hbw, _, _, _, rfl, fun b _ => unhide HO⟩

set_option maxHeartbeats 3200000 in
theorem rrows_err (p c : Nat) (l : List UInt8) (s : Except Nat Nat) (w : World) (h : RS w p l s) (hs : rdBetween l 0 20000 s = (0, .error c)) :
    Calls Tryz.prog 71 #[.pointer (some ⟨p, 0, none⟩), .int .i64 20000, .func (.func 72) #[.pointer (some ⟨p, 0, none⟩)] #[]] w fun e w' =>
      RS w' p l (.error c) ∧ Fq p w w' ∧ e = .returned (.slice none 0 0) := by
  have HB := hide (rbetween_any p 0 20000 l s w h (by omega) (by omega) (by omega))
  rw [hs] at HB
  clear h hs
  go_enter Tryz.func71, Tryz.ntmps71
  go_wp2_with (first | (go_at_call 54; refine (unhide HB).mono ?_; rintro e w1 ⟨rfl, hr1, hf1⟩))
  clear HB
  refine wp_loop_rounds 1 ?_
  rw [rounds_succ]
  go_wp2
  go_ret
  exact ⟨hr1, hf1, rfl⟩

theorem rrows_any (p : Nat) (l : List UInt8) (s : Except Nat Nat) (w : World) (h : RS w p l s) :
    Calls Tryz.prog 71 #[.pointer (some ⟨p, 0, none⟩), .int .i64 20000, .func (.func 72) #[.pointer (some ⟨p, 0, none⟩)] #[]] w fun e w' =>
      RS w' p l (rdList rdRow' 20000 l s).2 ∧ Fq p w w' ∧ ∃ va vm vk, e = .returned (.slice va vm vk) ∧ (∀ b, (rdList rdRow' 20000 l s).2 = .ok b → OwR w' w.heap.size (.slice va vm vk) (rdList rdRow' 20000 l s).1) := by
  cases hb : (rdBetween l 0 20000 s).2 with
  | error c =>
    have e : rdList rdRow' 20000 l s = ([], .error c) := by
      have hb' : (rdBetween l 0 ((20000 : Nat) : Int) s).2 = .error c := hb
      simp only [rdList, hb']
    rw [e]
    refine (rrows_err p c l s w h (rdBetween_err hb)).mono ?_
    rintro e w' ⟨h1, h2, rfl⟩
    exact ⟨h1, h2, _, _, _, rfl, fun b h => by cases h⟩
  | ok a =>
    obtain ⟨n, hn, hn2⟩ := rdBetween_ok (by omega) hb
    have hn3 : rdBetween l 0 20000 s = ((n : Int), .ok a) := by rw [hn]; simp
    have e : rdList rdRow' 20000 l s = rdN rdRow' l n (.ok a) := by
      have hn4 : rdBetween l 0 ((20000 : Nat) : Int) s = ((n : Int), .ok a) := hn3
      simp only [rdList, hn4, Int.toNat_natCast]
    rw [e]; exact rrows_ok p n a l s w h hn3 (by omega)
end Go.Proofs.YtahpfhnekmilmaaGreatDoor
