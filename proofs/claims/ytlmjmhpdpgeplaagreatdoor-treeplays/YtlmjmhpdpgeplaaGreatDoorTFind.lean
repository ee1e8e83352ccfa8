/- A node's find: the place of a key among rising items. -/
import Derived.Test.YtlmjmhpdpgeplaaGreatDoorJTTreeTMem
import Derived.Test.YtlmjmhpdpgeplaaGreatDoorProg
import Derived.Lib.Bytealg
import Derived.Deep.RegionWith
import Derived.Deep.CutBlock
namespace Go.Proofs.YtlmjmhpdpgeplaaGreatDoor
open Go.RowKit Go.Lib

theorem cmpT_any (a b : ByteArray) (w : World) : Calls Tryz.prog 50 #[.string a, .string b] w fun e w' => e = .returned (.int .i64 (kc a b)) ∧ w' = w := by
  have h := @run_callFunc_extern Tryz.prog 69 _ Extern.BytealgCompare.compare Tryz.func69 (by kernel_rfl) (by kernel_rfl) (by kernel_rfl) (by kernel_rfl)
  have h2 := Lib.run_compareString (P := Tryz.prog) a b
  have HN := hide (fun (w : World) => show Calls Tryz.prog 63 #[.string a, .string b] w fun e w' => e = .returned (.int .i64 (compareBytes a.data.toList b.data.toList)) ∧ w' = w by
    go_enter Tryz.func63, Tryz.ntmps63
    go_wp2
    go_ret
    exact ⟨rfl, rfl⟩)
  clear h h2
  go_enter Tryz.func50, Tryz.ntmps50
  go_wp2_with (go_at_call 63; refine (unhide HN _).mono ?_; rintro e w1 ⟨rfl, rfl⟩)
  go_ret
  exact ⟨rfl, rfl⟩
theorem findf_any (a b c : ByteArray) (w : World) : Calls Tryz.prog 49 #[.agg #[.string a, .string b], .string c] w fun e w' => e = .returned (.int .i64 (kc a c)) ∧ Below w.heap.size w w' := by
  have HN := hide (fun (w : World) => cmpT_any a c w)
  go_enter Tryz.func49, Tryz.ntmps49
  go_wp2_with (go_at_call 50; refine (unhide HN _).mono ?_; rintro e w1 ⟨rfl, rfl⟩)
  go_ret
  exact ⟨rfl, (Below.refl _ _).alloc (Nat.le_refl _) _⟩
theorem below_tr {w a b : World} (h : Below w.heap.size w a) (hb : Below a.heap.size a b) : Below w.heap.size w b := h.trans (hb.mono h.size)
/-- The place of a key: what stands ahead of it is below, what stands from it on isn't. -/
def PlaceAt (its : List It) (k : ByteArray) (i : Nat) : Prop := i ≤ its.length ∧ (∀ t x, its[t]? = some x → t < i → kc x.1 k < 0) ∧ ∀ t x, its[t]? = some x → i ≤ t → 0 ≤ kc x.1 k
def hereB (its : List It) (k : ByteArray) (i : Nat) : Bool := match its[i]? with | some x => decide (kc x.1 k = 0) | none => false
theorem srt_lt {its : List It} (h : Srt its) {i j : Nat} {x y : It} (hx : its[i]? = some x) (hy : its[j]? = some y) (hij : i < j) : kc x.1 y.1 < 0 := by
  obtain ⟨h1, rfl⟩ := List.getElem?_eq_some_iff.1 hx
  obtain ⟨h2, rfl⟩ := List.getElem?_eq_some_iff.1 hy
  exact List.pairwise_iff_getElem.1 h i j h1 h2 hij
theorem srt_below {its : List It} (h : Srt its) {i j : Nat} {x y : It} {k : ByteArray} (hx : its[i]? = some x) (hy : its[j]? = some y) (hij : i ≤ j) (hk : kc y.1 k < 0) : kc x.1 k < 0 := by
  rcases Nat.lt_or_eq_of_le hij with h' | rfl
  · exact kc_lt_trans (srt_lt h hx hy h') hk
  · rw [hx] at hy; cases hy; exact hk
theorem srt_above {its : List It} (h : Srt its) {i j : Nat} {x y : It} {k : ByteArray} (hx : its[i]? = some x) (hy : its[j]? = some y) (hij : i ≤ j) (hk : 0 ≤ kc x.1 k) : 0 ≤ kc y.1 k := by
  rcases Int.lt_or_le (kc y.1 k) 0 with h' | h'
  · have := srt_below h hx hy hij h'; omega
  · exact h'
/-- What the search knows: below i all are below, from j on none is. -/
def SrIn (its : List It) (k : ByteArray) (i j : Nat) : Prop := i ≤ j ∧ j ≤ its.length ∧ (∀ t x, its[t]? = some x → t < i → kc x.1 k < 0) ∧ ∀ t x, its[t]? = some x → j ≤ t → 0 ≤ kc x.1 k
set_option maxHeartbeats 6400000 in
set_option maxRecDepth 100000 in
theorem search_any (v : Value) (its : List It) (k : ByteArray) (w : World) (hv : R2 w v (its.map itV)) (hs : Srt its) (hn : its.length ≤ 1000000) :
    Calls Tryz.prog 48 #[v, .string k, .func (.func 49) #[] #[]] w fun e w' => ∃ i, PlaceAt its k i ∧ e = .returned (.tuple #[.int .i64 (i : Int), .bool (hereB its k i)]) ∧ Below w.heap.size w w' := by
  obtain ⟨a, c, rfl, _, _⟩ := id hv.slice
  rw [List.length_map] at *
  have HR : Hid (∀ (wr : World) (h : Nat), Below w.heap.size w wr → h < its.length → ∃ (x : It) (b off : Nat), its[h]? = some x ∧ a = some ⟨b, off, none⟩ ∧ wr.cell? ⟨b, off + h * 2, none⟩ = some (.string x.1) ∧ wr.cell? ⟨b, off + h * 2 + 1, none⟩ = some (.string x.2)) := by
    intro wr h hb hl
    have hx : its[h]? = some its[h] := List.getElem?_eq_getElem hl
    have hm : (its.map itV)[h]? = some (itV its[h]) := by rw [List.getElem?_map, hx]; rfl
    obtain ⟨b, off, h1, _, h3, h4⟩ := (hv.below hb).at hm
    exact ⟨its[h], b, off, hx, h1, h3, h4⟩
  have HF := hide (fun (x : It) (W : World) => findf_any x.1 x.2 k W)
  have HS := hide hs
  have hn' : (its.length : Int) ≤ 1000000 := by omega
  clear hv hs
  go_enter Tryz.func48, Tryz.ntmps48
  go_wp2_with fail
  go_loopw [9, 10, 11] (fun s9 s10 s11 wr => s11 = s11 ∧ ∃ (i j : Nat), s9 = .int .i64 (i : Int) ∧ s10 = .int .i64 (j : Int) ∧ i ≤ j ∧ j ≤ its.length ∧ Hid (SrIn its k i j ∧ Below w.heap.size w wr)) (fun s9 s10 _ _ => (RowKit.intOf s10).toNat - (RowKit.intOf s9).toNat)
  case atStart => exact ⟨rfl, 0, its.length, rfl, rfl, Nat.zero_le _, Nat.le_refl _, ⟨Nat.zero_le _, Nat.le_refl _, fun t x _ h => by omega, fun t x hx h => by have := (List.getElem?_eq_some_iff.1 hx).1; omega⟩, Below.refl _ _⟩
  case round =>
    obtain ⟨-, i, j, rfl, rfl, hij, hjl, hr⟩ := hrel
    by_cases hlt : i < j
    · have hlti : (i : Int) < (j : Int) := by omega
      have hw1 : IntKind.i64.wrap ((i : Int) + (j : Int)) = (i : Int) + (j : Int) := by rw [IntKind.wrap_i64] <;> omega
      have hw2 : IntKind.u64.wrap ((i : Int) + (j : Int)) = (i : Int) + (j : Int) := by rw [IntKind.wrap_u64] <;> omega
      obtain ⟨h, hh⟩ : ∃ h, h = (i + j) / 2 := ⟨_, rfl⟩
      have hhi : ((i : Int) + (j : Int)) / 2 = (h : Int) := by omega
      have hih : i ≤ h ∧ h < j := by omega
      have hih1 : (0 : Int) ≤ (h : Int) := by omega
      have hih2 : (h : Int) < (its.length : Int) := by omega
      have hw3 : IntKind.i64.wrap (h : Int) = (h : Int) := by rw [IntKind.wrap_i64] <;> omega
      have hw4 : IntKind.i64.wrap ((h : Int) + 1) = (h : Int) + 1 := by rw [IntKind.wrap_i64] <;> omega
      obtain ⟨x, b, off, hx, rfl, c0, c1⟩ := unhide HR wr h (unhide hr).2 (by omega)
      have HX := hide hx
      have HF1 := hide (unhide HF x wr)
      have HSR := hide (unhide hr)
      clear hr hh hx
      by_cases hk : kc x.1 k < 0
      · go_wp2_with (go_at_call 49; refine (unhide HF1).mono ?_; rintro e w1 ⟨rfl, hb1⟩; have HB1 := hide (below_tr (unhide HSR).2 hb1); clear hb1)
        refine ⟨⟨trivial, h + 1, j, by simp, rfl, by omega, hjl, ?_, unhide HB1⟩, ?_⟩
        · obtain ⟨q1, q2, q3, q4⟩ := (unhide HSR).1
          exact ⟨by omega, hjl, fun t y hy ht => srt_below (unhide HS) hy (unhide HX) (by omega) hk, q4⟩
        · simp [RowKit.intOf]; omega
      · have hk' : 0 ≤ kc x.1 k := by omega
        go_wp2_with (go_at_call 49; refine (unhide HF1).mono ?_; rintro e w1 ⟨rfl, hb1⟩; have HB1 := hide (below_tr (unhide HSR).2 hb1); clear hb1)
        refine ⟨⟨trivial, i, h, rfl, rfl, by omega, by omega, ?_, unhide HB1⟩, ?_⟩
        · obtain ⟨q1, q2, q3, q4⟩ := (unhide HSR).1
          exact ⟨by omega, by omega, q3, fun t y hy ht => srt_above (unhide HS) (unhide HX) hy ht hk'⟩
        · simp [RowKit.intOf]; omega
    · obtain rfl : i = j := by omega
      have hii : ¬ ((i : Int) < (i : Int)) := by omega
      have HP : Hid (PlaceAt its k i ∧ Below w.heap.size w wr) := by
        obtain ⟨⟨q1, q2, q3, q4⟩, q5⟩ := unhide hr
        exact ⟨⟨hjl, q3, q4⟩, q5⟩
      by_cases hin : i < its.length
      · have hini : (i : Int) < (its.length : Int) := by omega
        have hi0 : (0 : Int) ≤ (i : Int) := by omega
        obtain ⟨x, b, off, hx, rfl, c0, c1⟩ := unhide HR wr i (unhide hr).2 hin
        have HH : Hid (hereB its k i = (kc x.1 k == 0)) := by unfold hereB; rw [hx]; rfl
        have HF1 := hide (unhide HF x wr)
        clear hr hx hlt hij
        go_wp2_with (go_at_call 49; refine (unhide HF1).mono ?_; rintro e w1 ⟨rfl, hb1⟩; have HB1 := hide (below_tr (unhide HP).2 hb1); clear hb1)
        go_ret2
        refine ⟨i, (unhide HP).1, ?_, unhide HB1⟩
        rw [unhide HH]; rfl
      · have hini : ¬ ((i : Int) < (its.length : Int)) := by omega
        have HH : Hid (hereB its k i = false) := by
          unfold hereB
          rw [List.getElem?_eq_none (by omega)]; rfl
        clear hr hlt hij
        go_wp2_with fail
        go_ret2
        refine ⟨i, (unhide HP).1, ?_, (unhide HP).2⟩
        rw [unhide HH]; rfl
set_option maxHeartbeats 1600000 in
/-- A node's find. -/
theorem find_any (vi vk : Value) (its : List It) (k : ByteArray) (w : World) (hv : R2 w vi (its.map itV)) (hs : Srt its) (hn : its.length ≤ 1000000) :
    Calls Tryz.prog 34 #[.agg #[vi, vk], .string k] w fun e w' => ∃ i, PlaceAt its k i ∧ e = .returned (.tuple #[.int .i64 (i : Int), .bool (hereB its k i)]) ∧ Below w.heap.size w w' := by
  obtain ⟨a, c, rfl, _, _⟩ := id hv.slice
  have b0 := (Below.refl w.heap.size w).alloc (Nat.le_refl _) (.cells #[.slice a (its.map itV).length c, vk] 54)
  have HF := hide (search_any _ its k _ (hv.below b0) hs hn)
  have HB := hide b0
  rw [List.length_map] at *
  clear hv hs b0
  go_enter Tryz.func34, Tryz.ntmps34
  go_wp2_with (go_at_call 48; refine (unhide HF).mono ?_; rintro e w1 ⟨i, hp, rfl, hb1⟩; have HP := hide (And.intro hp (below_tr (unhide HB) hb1)); clear hp hb1)
  go_ret2
  exact ⟨i, (unhide HP).1, rfl, (unhide HP).2⟩
end Go.Proofs.YtlmjmhpdpgeplaaGreatDoor
