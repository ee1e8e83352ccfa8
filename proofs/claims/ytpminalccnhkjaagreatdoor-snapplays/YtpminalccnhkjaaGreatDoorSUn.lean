/- What package snap reads of a snapshot's bytes: unpack. -/
import Derived.Test.YtpminalccnhkjaaGreatDoorSPack
import Derived.Test.YtpminalccnhkjaaGreatDoorJDAbs2SPreSOkSRepSSweep
import Derived.Laws.ResultCell
namespace Go.Proofs.YtpminalccnhkjaaGreatDoor
open Go.RowKit Go.Lib

set_option maxHeartbeats 1600000 in
set_option maxRecDepth 100000 in
theorem clone_new (a : Addr) (n cap : Nat) (l : List UInt8) (w : World) (hl : l.length ≤ 1000000000) (hv : RBp w w.heap.size (.slice (some a) n cap) l) :
    Calls Tryz.prog 38 #[.slice (some a) n cap] w fun e w' => ∃ v', e = .returned v' ∧ w'.ownsRow w.heap.size 5 1 v' l.length (byteCells l) ∧ Below w.heap.size w w' := by
  have hb0 := below_alloc (B := w.heap.size) (.cells #[] 5) (Nat.le_refl w.heap.size)
  have HO := hide (own_empty w)
  have HV := hide (hv.below hb0 (Nat.le_refl _))
  have HB0 := hide hb0
  have hnil := run_eql_slice_some_nil (P := Tryz.prog) w a n cap Tryz.underlying29
  clear hv hb0
  go_enter Tryz.func38, Tryz.ntmps38
  go_wp2_with (first
    | (at_builtin; refine wpList_append_rb rfl (.tmp 5) (.tmp 6) rfl w.heap.size _ 0 [] rfl (unhide HO) _ _ l rfl (unhide HV) (by omega) hl (by simp) ?_; intro v3 w3 ho3 _ hb3; have HO3 := hide ho3; clear ho3))
  go_ret
  exact ⟨_, rfl, own_cast2 (unhide HO3) (by omega) rfl, (unhide HB0).trans hb3⟩

set_option maxHeartbeats 3200000 in
set_option maxRecDepth 100000 in
theorem unframe_fine2 (b off cap len n : Nat) (w : World) (hl4 : 4 ≤ len) (hl : len ≤ 1000000000000) (hn : n < 4294967296)
    (HW : Hid (Calls Tryz.prog 74 #[.slice (some ⟨b, off, none⟩) len cap] w fun e w' => e = .returned (.int .u32 (n : Int)) ∧ ∃ m, w' = w.drewN m)) (en e8 : Nat) (hen : en = 4 + n) (he8 : e8 = en + 4) (hg : n ≤ 262144)
    (hcap : len ≤ cap) (_hm : cap ≤ 9223372036854775807) (hc : e8 ≤ len) (c1 c2 : Nat) (HS : Hid (∀ W, Below w.heap.size w W → Calls Tryz.prog 62 #[.slice (some ⟨b, off, none⟩) en cap] W fun e w' => e = .returned (.int .u32 (c1 : Int)) ∧ w' = W))
    (HW2 : Hid (∀ W, Below w.heap.size w W → Calls Tryz.prog 74 #[.slice (some ⟨b, off + en, none⟩) (len - en) (cap - en)] W fun e w' => e = .returned (.int .u32 (c2 : Int)) ∧ ∃ m, w' = W.drewN m)) (hx : c1 = c2) (lm : List UInt8)
    (HC : Hid (∀ W, Below w.heap.size w W → Calls Tryz.prog 38 #[.slice (some ⟨b, off + 4, none⟩) (en - 4) (cap - 4)] W fun e w' => ∃ v', e = .returned v' ∧ w'.ownsRow W.heap.size 5 1 v' lm.length (byteCells lm) ∧ Below W.heap.size W w')) :
    Calls Tryz.prog 67 #[.slice (some ⟨b, off, none⟩) len cap] w fun e w' => ∃ p, e = .returned (.tuple #[p, .int .i64 (e8 : Int), .nilIface]) ∧ w'.ownsRow w.heap.size 5 1 p lm.length (byteCells lm) ∧ Below w.heap.size w w' := by
  have hl' : ¬ ((len : Int) < 4) := by omega
  have hg' : ¬ ((262144 : Int) < (n : Int)) := by omega
  have hA : (4 : Int) + (n : Int) = (en : Int) := by omega
  have hA8 : (en : Int) + 4 = (e8 : Int) := by omega
  have hc' : ¬ ((len : Int) < (e8 : Int)) := by omega
  have hb8 : e8 ≤ 1000000 := by omega
  have hben : en ≤ 1000000 := by omega
  have hlen : en ≤ len := by omega
  have hce : cap ≠ en := by omega
  have hce4 : cap ≠ 4 := by omega
  have h4n : 4 ≤ en := by omega
  have hcen : en ≤ cap := by omega
  subst hx
  clear hen he8
  go_enter Tryz.func67, Tryz.ntmps67
  go_wp2_with (first | (go_at_call 74; refine (unhide HW).mono ?_; rintro e w1 ⟨rfl, m1, hw1⟩; have hb1 : Below w.heap.size w w1 := (by rw [hw1]; exact drew_below w m1); clear HW hw1))
  go_quiet (first
    | (go_at_call 62; refine Calls.quiet_of_same (unhide HS _ (bt hb1 (drew_below w1 _))))
    | (go_at_call 74; refine Calls.quiet_of (unhide HW2 _ (bt hb1 (drew_below w1 _)))))
  go_wp2_with (first | (go_at_call 38; refine (unhide HC _ (bt hb1 (drew_below w1 _))).mono ?_; rintro e w3 ⟨v3, rfl, hv3, hb3⟩))
  go_ret3
  exact ⟨_, rfl, own_weaker (bt hb1 (drew_below w1 _)).size hv3, bt (bt hb1 (drew_below w1 _)) hb3⟩
theorem unframe_new (v : Value) (l lm : List UInt8) (k : Nat) (w : World) (hT : ST w) (hl3 : l.length ≤ 1000000) (hv : RBp w w.heap.size v l) (hu : unfr l = (lm, k, 0)) :
    Calls Tryz.prog 67 #[v] w fun e w' => ∃ p, e = .returned (.tuple #[p, .int .i64 (k : Int), .nilIface]) ∧ w'.ownsRow w.heap.size 5 1 p lm.length (byteCells lm) ∧ Below w.heap.size w w' := by
  have hrow := hv
  obtain ⟨ad, kk, rfl⟩ := rb_len hv
  by_cases h4 : l.length < 4
  · simp [unfr, h4] at hu
  obtain ⟨hlen, ⟨hn, hn2⟩ | ⟨b, off, cap, hbB, hcap, hm, hveq, hcell⟩⟩ := hv
  · rw [hn2] at h4; simp at h4
  injection hveq with e1 e2 e3
  subst e1 e3
  have hn := wdOf_lt l
  have HW := hide (word_is (cap := kk) hbB (Below.refl _ _) (by omega) hlen rfl hcell)
  by_cases hg : 262144 < wdOf l
  · simp [unfr, h4, hg] at hu
  by_cases hc : l.length < wdOf l + 8
  · simp [unfr, h4, hg, hc] at hu
  have HS : Hid (∀ W, Below w.heap.size w W → Calls Tryz.prog 62 #[.slice (some ⟨b, off, none⟩) (4 + wdOf l) kk] W fun e w' => e = .returned (.int .u32 ((crc (l.take (4 + wdOf l)) : Nat) : Int)) ∧ w' = W) :=
    hide fun W hW => sum_any _ _ _ W (rb_first (rb_later hrow hW (Nat.le_refl _)) (by omega)) (hT.later hW)
  have hd : (l.drop (4 + wdOf l)).length = l.length - (4 + wdOf l) := by simp
  have HW2 : Hid (∀ W, Below w.heap.size w W → Calls Tryz.prog 74 #[.slice (some ⟨b, off + (4 + wdOf l), none⟩) (l.length - (4 + wdOf l)) (kk - (4 + wdOf l))] W fun e w' => e = .returned (.int .u32 ((wdOf (l.drop (4 + wdOf l)) : Nat) : Int)) ∧ ∃ m, w' = W.drewN m) :=
    hide fun W hW => word_is hbB hW (by omega) (by omega) hd (fun i hi => by
      have := hcell (4 + wdOf l + i) (by rw [hd] at hi; omega)
      rw [Nat.add_assoc, this]
      simp [List.getD_eq_getElem?_getD, List.getElem?_drop])
  have em : wdOf l + 4 = 4 + wdOf l := by omega
  by_cases hx : crc (l.take (4 + wdOf l)) = wdOf (l.drop (4 + wdOf l))
  · have e : unfr l = ((l.drop 4).take (wdOf l), 4 + wdOf l + 4, 0) := by simp [unfr, h4, hg, hc, em, hx]
    rw [e] at hu
    simp only [Prod.mk.injEq] at hu
    obtain ⟨rfl, rfl, _⟩ := hu
    have hmid := rb_mid (a := 4) (n := wdOf l) hbB (by omega) hcap hm hlen hcell
    exact unframe_fine2 b off kk l.length (wdOf l) w (by omega) hlen hn HW _ _ rfl rfl (by omega) hcap hm (by omega) _ _ HS HW2 hx _ (hide fun W hW => clone_new _ _ _ _ W (by simp; omega) (rb_later hmid hW hW.size))
  · simp [unfr, h4, hg, hc, em, hx] at hu


/-- A row of bytes of its own, laid open. -/
theorem own_open {w : World} {B : Nat} {v : Value} {l : List UInt8} (h : w.ownsRow B 5 1 v l.length (byteCells l)) (hne : l ≠ []) :
    ∃ g cap, v = .slice (some ⟨g, 0, none⟩) l.length cap ∧ B ≤ g ∧ g < w.heap.size ∧ l.length ≤ cap ∧ cap ≤ maxLen ∧ ∀ i, i < l.length → w.cell? ⟨g, 0 + i, none⟩ = some (.int .u8 ((l.getD i 0).toNat : Int)) := by
  rcases h.2 with ⟨rfl, h0⟩ | ⟨g, cap, cur, rfl, hB, hc, h1, h2, h3, h4⟩
  · exact absurd (List.eq_nil_of_length_eq_zero h0) hne
  · refine ⟨g, cap, rfl, hB, (Array.getElem?_eq_some_iff.1 hc).1, h1, h2, fun i hi => ?_⟩
    rw [(Dk.cellB hc _).1, Nat.zero_add, ← Array.getElem?_toList]
    have e1 : (cur.toList.take (l.length * 1))[i]? = cur.toList[i]? := List.getElem?_take_of_lt (by omega)
    rw [← e1, h4]
    simp [byteCells, hi]
/-- A slice that reads as these bytes, in blocks from lo on. -/
def RBn (w : World) (lo : Nat) (v : Value) (l : List UInt8) : Prop :=
  l.length ≤ 1000000000 ∧ ((v = .slice none 0 0 ∧ l = []) ∨
    ∃ b off cap, b < w.heap.size ∧ lo ≤ b ∧ l.length ≤ cap ∧ cap ≤ maxLen ∧ v = .slice (some ⟨b, off, none⟩) l.length cap ∧ ∀ i, i < l.length → w.cell? ⟨b, off + i, none⟩ = some (.int .u8 ((l.getD i 0).toNat : Int)))
theorem RBn.rb {w : World} {lo : Nat} {v : Value} {l : List UInt8} (h : RBn w lo v l) : RBp w w.heap.size v l := by
  obtain ⟨h1, h2 | ⟨b, off, cap, hb, _, h3, h4, h5, h6⟩⟩ := h
  · exact ⟨by omega, .inl h2⟩
  · exact ⟨by omega, .inr ⟨b, off, cap, hb, h3, h4, h5, h6⟩⟩
theorem RBn.later {w w' : World} {lo : Nat} {v : Value} {l : List UInt8} (h : RBn w lo v l) (hb : Below w.heap.size w w') : RBn w' lo v l := by
  obtain ⟨h1, h2 | ⟨b, off, cap, hbl, h0, h3, h4, h5, h6⟩⟩ := h
  · exact ⟨h1, .inl h2⟩
  · exact ⟨h1, .inr ⟨b, off, cap, Nat.lt_of_lt_of_le hbl hb.size, h0, h3, h4, h5, fun i hi => (hb.cell (p := ⟨b, off + i, none⟩) hbl).trans (h6 i hi)⟩⟩

theorem unp_end {w3 W : World} {i t N li lt lo g q cap len : Nat} {l : List UInt8} (hg : g < w3.heap.size) (hz : w3.heap.size ≤ W.heap.size) (hs : W.heap[g]? = w3.heap[g]?) (hlo : lo ≤ g) (hN : N = li + lt + l.length) (hd : (snB i t l).drop (li + lt) = l) (hc : N = (snB i t l).length) (hlen : len = N - li - lt) (hl : l.length ≤ 262080)
    (hq : q = li + lt ∨ l.length = 0) (h1 : len ≤ cap) (h2 : cap ≤ maxLen) (hcell : ∀ j, j < N → w3.cell? ⟨g, 0 + j, none⟩ = some (.int .u8 (((snB i t l).getD j 0).toNat : Int))) : RBn W lo (.slice (some ⟨g, q, none⟩) len cap) l := by
  have hll : len = l.length := by omega
  subst hll
  refine ⟨by omega, .inr ⟨g, q, cap, by omega, hlo, h1, h2, rfl, fun j hj => ?_⟩⟩
  obtain rfl : q = li + lt := by omega
  have h3 := hcell (li + lt + j) (by omega)
  rw [Nat.zero_add] at h3
  rw [World.cell?_of_block (w := w3) hs, h3]
  have h4 : (snB i t l).getD (li + lt + j) 0 = ((snB i t l).drop (li + lt)).getD j 0 := by simp [List.getD_eq_getElem?_getD, List.getElem?_drop]
  rw [h4, hd]
theorem set3_block (w : World) (p g : Nat) (a b c : Value) (h : g ≠ p) : (((w.setCell ⟨p, 0, none⟩ a).setCell ⟨p, 1, none⟩ b).setCell ⟨p, 2, none⟩ c).heap[g]? = w.heap[g]? := by
  rw [Below.heap_setCell _ _ _ _ h, Below.heap_setCell _ _ _ _ h, Below.heap_setCell _ _ _ _ h]
theorem set3_below {B : Nat} {a w : World} {p : Nat} (h : Below B a w) (hp : B ≤ p) (x y z : Value) : Below B a (((w.setCell ⟨p, 0, none⟩ x).setCell ⟨p, 1, none⟩ y).setCell ⟨p, 2, none⟩ z) :=
  ((h.setCell (p := ⟨p, 0, none⟩) hp x).setCell (p := ⟨p, 1, none⟩) hp y).setCell (p := ⟨p, 2, none⟩) hp z
theorem set3_size (w : World) (p : Nat) (a b c : Value) : (((w.setCell ⟨p, 0, none⟩ a).setCell ⟨p, 1, none⟩ b).setCell ⟨p, 2, none⟩ c).heap.size = w.heap.size := by simp

/-- A snapshot's variable. -/
def Sv (w : World) (p : Nat) (a b c : Value) : Prop := w.heap[p]? = some (.cells #[a, b, c] 34 (0, 0))
theorem Sv.new (w : World) (a b c : Value) : Sv (w.alloc (.cells #[a, b, c] 34)) w.heap.size a b c := (MapKept.heap_alloc w _).1
theorem Sv.lt {w : World} {p : Nat} {a b c : Value} (h : Sv w p a b c) : p < w.heap.size := (Array.getElem?_eq_some_iff.1 h).1
theorem Sv.below {w w' : World} {p B : Nat} {a b c : Value} (h : Sv w p a b c) (hb : Below B w w') (hB : p < B) : Sv w' p a b c := (hb.block p hB).trans h
theorem Sv.cells {w : World} {p : Nat} {a b c : Value} (h : Sv w p a b c) : w.cell? ⟨p, 0, none⟩ = some a ∧ w.cell? ⟨p, 1, none⟩ = some b ∧ w.cell? ⟨p, 2, none⟩ = some c ∧ w.frozen? ⟨p, 0, none⟩ = false ∧ w.frozen? ⟨p, 1, none⟩ = false ∧ w.frozen? ⟨p, 2, none⟩ = false :=
  ⟨(Dk.cellB h 0).1, (Dk.cellB h 1).1, (Dk.cellB h 2).1, (Dk.cellB h 0).2, (Dk.cellB h 1).2, (Dk.cellB h 2).2⟩

set_option maxHeartbeats 6400000 in
set_option maxRecDepth 100000 in
theorem unpack_any (i t : Nat) (v : Value) (l : List UInt8) (w : World) (hi : i < 18446744073709551616) (ht : t < 18446744073709551616) (hl : l.length ≤ 262080) (hT : ST w) (hv : RBp w w.heap.size v (frameBytes (snB i t l))) :
    Calls Tryz.prog 52 #[v] w fun e w' => ∃ d, e = .returned (.tuple #[.agg #[.int .u64 (i : Int), .int .u64 (t : Int), d], .nilIface]) ∧ RBn w' w.heap.size d l ∧ Below w.heap.size w w' := by
  obtain ⟨ad, kk, rfl⟩ := rb_len hv
  obtain ⟨li, hli⟩ : ∃ x, x = (uvarint i).length := ⟨_, rfl⟩
  obtain ⟨lt, hlt⟩ : ∃ x, x = (uvarint t).length := ⟨_, rfl⟩
  have pi := uvarint_pos i
  have pt := uvarint_pos t
  have qi := uvarint_length64 hi
  have qt := uvarint_length64 ht
  obtain ⟨N, hN⟩ : ∃ x, x = (snB i t l).length := ⟨_, rfl⟩
  have hN2 : N = li + lt + l.length := by rw [hN, hli, hlt]; simp [snB, Nat.add_assoc]
  have hne : snB i t l ≠ [] := by intro h; rw [h] at hN; simp at hN; omega
  have eA : snB i t l = uvarint i ++ (uvarint t ++ l) := by simp [snB]
  have dA : decU (snB i t l) = (i, li, 0, 0) := by rw [eA, hli]; exact decU_uv i hi _
  have eB : (snB i t l).drop li = uvarint t ++ l := by rw [eA, hli, List.drop_left]
  have dB : decU ((snB i t l).drop li) = (t, lt, 0, 0) := by rw [eB, hlt]; exact decU_uv t ht _
  have eC : (snB i t l).drop (li + lt) = l := by rw [← List.drop_drop, eB, hlt, List.drop_left]
  have hb0 := below_alloc (B := w.heap.size) (.cells #[.int .u64 0, .int .u64 0, .slice none 0 0] 34) (Nat.le_refl w.heap.size)
  have hfl : (frameBytes (snB i t l)).length = N + 8 := by rw [hN]; simp [frameBytes, word4_length]; omega
  have HU : Hid (Calls Tryz.prog 67 #[.slice ad (frameBytes (snB i t l)).length kk] (w.alloc (.cells #[.int .u64 0, .int .u64 0, .slice none 0 0] 34)) fun e w' => ∃ g cap, e = .returned (.tuple #[.slice (some ⟨g, 0, none⟩) N cap, .int .i64 ((N + 8 : Nat) : Int), .nilIface]) ∧ w.heap.size < g ∧ g < w'.heap.size ∧ N ≤ cap ∧ cap ≤ maxLen ∧ Hid (∀ j, j < N → w'.cell? ⟨g, 0 + j, none⟩ = some (.int .u8 (((snB i t l).getD j 0).toNat : Int))) ∧ Below (w.heap.size + 1) (w.alloc (.cells #[.int .u64 0, .int .u64 0, .slice none 0 0] 34)) w') := by
    refine (unframe_new _ _ (snB i t l) (N + 8) _ (hT.below hb0 hT.lt) (by omega) (rb_later hv hb0 hb0.size) (by have := unfr_frame (snB i t l) [] (by omega); rw [List.append_nil] at this; rw [this, hN])).mono ?_
    rintro e w' ⟨p, rfl, ho, hb⟩
    obtain ⟨g, cap, rfl, h1, h2, h3, h4, h5⟩ := own_open ho hne
    rw [← hN] at h3 h5 ⊢
    have e1 : (w.alloc (.cells #[.int .u64 0, .int .u64 0, .slice none 0 0] 34)).heap.size = w.heap.size + 1 := by simp
    rw [e1] at h1 hb
    exact ⟨g, cap, rfl, h1, h2, h3, h4, h5, hb⟩
  have HB0 := hide hb0
  have hlx : ¬ ((262080 : Int) < ((N - li - lt : Nat) : Int)) := by omega
  have HD : Hid (∀ (W : World) (g cap : Nat), g < W.heap.size → N ≤ cap → cap ≤ maxLen → (∀ j, j < N → W.cell? ⟨g, 0 + j, none⟩ = some (.int .u8 (((snB i t l).getD j 0).toNat : Int))) → Calls Tryz.prog 68 #[.slice (some ⟨g, 0, none⟩) N cap] W fun e w' => e = .returned (.tuple #[.int .u64 (i : Int), .int .i64 (li : Int), .nilIface]) ∧ w' = W) := by
    intro W g cap h1 h2 h3 h4
    refine uint_ok _ W.heap.size i li 0 (snB i t l) W ⟨by omega, .inr ⟨g, 0, cap, h1, by omega, h3, by rw [hN], fun j hj => h4 j (by omega)⟩⟩ dA
  have HE : Hid (∀ (W : World) (g cap : Nat), g < W.heap.size → N ≤ cap → cap ≤ maxLen → (∀ j, j < N → W.cell? ⟨g, 0 + j, none⟩ = some (.int .u8 (((snB i t l).getD j 0).toNat : Int))) → Calls Tryz.prog 68 #[.slice (some ⟨g, li, none⟩) (N - li) (cap - li)] W fun e w' => e = .returned (.tuple #[.int .u64 (t : Int), .int .i64 (lt : Int), .nilIface]) ∧ w' = W) := by
    intro W g cap h1 h2 h3 h4
    have h5 := rb_drop (w := W) (B := W.heap.size) (b := g) (off := 0) (cap := cap) (at' := li) (l := snB i t l) h1 (by omega) (by omega) h3 (by omega) (fun j hj => h4 j (by omega))
    rw [Nat.zero_add, ← hN] at h5
    exact uint_ok _ W.heap.size t lt 0 _ W h5 dB
  clear hv hT hb0 hfl
  have HN := hide hN
  have HL := hide (And.intro hN2 eC)
  have n1 : 0 < li := by omega
  have n2 : 0 < lt := by omega
  have n3 : li + lt ≤ N := by omega
  have n4 : N ≤ 262144 := by omega
  clear hN hN2 hli hlt eA dA eB dB eC pi pt qi qt hne
  generalize (frameBytes (snB i t l)).length = M at HU ⊢
  go_enter Tryz.func52, Tryz.ntmps52
  go_upto_region 7 with (first
    | (go_at_call 67; refine (unhide HU).mono ?_; rintro e w1 ⟨g, cap, rfl, h1, h2, h3, h4, HC, b1⟩; clear HU; have k1 : cap ≠ li := (by omega); have k2 : li ≤ N := (by omega))
    | (go_at_call 68; refine (unhide HD _ g cap h2 h3 h4 (unhide HC)).mono ?_; rintro e w2 ⟨rfl, hw2⟩; subst hw2; clear HD)
    | (go_at_call 68; refine (unhide HE _ g cap h2 h3 h4 (unhide HC)).mono ?_; rintro e w2 ⟨rfl, hw2⟩; subst hw2; clear HE))
  go_upto_region 11 with (first
    | (go_at_call 68; refine (unhide HE _ g cap h2 h3 h4 (unhide HC)).mono ?_; rintro e w3 ⟨rfl, hw3⟩; subst hw3; clear HE; have n5 : lt ≤ N - li := (by omega); have n6 : N - li ≤ cap - li := (by omega)))
  have HF := hide (And.intro h2 (And.intro h3 h4))
  obtain ⟨f0, f1, f2, f3, f4, f5⟩ := ((Sv.new w (.int .u64 0) (.int .u64 0) (.slice none 0 0)).below b1 (Nat.lt_succ_self _)).cells
  have HB1 := hide b1
  clear b1 h2 h3 h4
  go_wp2
  case inr =>
    refine bodyPost_ret (v := .tuple #[.agg #[.int .u64 (i : Int), .int .u64 (t : Int), .slice (some ⟨g, li + lt, none⟩) (N - li - lt) (cap - li - lt)], .nilIface]) ?_ rfl ?_
    · rw [results_cell_tmp rfl]
      go_simp
      try rfl
    have hF := unhide HF
    have hL := unhide HL
    refine ⟨_, rfl, unp_end (w3 := w3) (i := i) (t := t) (N := N) (li := li) (lt := lt) hF.1 (Nat.le_of_eq (set3_size _ _ _ _ _).symm) (set3_block _ _ _ _ _ _ (by omega)) (by omega) hL.1 hL.2 (unhide HN) rfl hl (by omega) (by omega) (by unfold maxLen at hF ⊢; omega) (unhide HC), set3_below ((unhide HB0).trans ((unhide HB1).mono (Nat.le_succ _))) (Nat.le_refl _) _ _ _⟩
  case inl =>
    refine bodyPost_ret (v := .tuple #[.agg #[.int .u64 (i : Int), .int .u64 (t : Int), .slice (some ⟨g, li, none⟩) (N - li - lt) 0], .nilIface]) ?_ rfl ?_
    · rw [results_cell_tmp rfl]
      go_simp
      try rfl
    have hF := unhide HF
    have hL := unhide HL
    refine ⟨_, rfl, unp_end (w3 := w3) (i := i) (t := t) (N := N) (li := li) (lt := lt) hF.1 (Nat.le_of_eq (set3_size _ _ _ _ _).symm) (set3_block _ _ _ _ _ _ (by omega)) (by omega) hL.1 hL.2 (unhide HN) rfl hl (by omega) (by omega) (by unfold maxLen at hF ⊢; omega) (unhide HC), set3_below ((unhide HB0).trans ((unhide HB1).mono (Nat.le_succ _))) (Nat.le_refl _) _ _ _⟩
end Go.Proofs.YtpminalccnhkjaaGreatDoor
