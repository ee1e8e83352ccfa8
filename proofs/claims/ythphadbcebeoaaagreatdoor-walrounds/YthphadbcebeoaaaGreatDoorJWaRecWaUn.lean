/- The wal's records: their frames are made. -/
import Derived.Test.YthphadbcebeoaaaGreatDoorWaDef
import Derived.Test.YthphadbcebeoaaaGreatDoorJHandWaStLawFramesSPack
import Derived.Test.YthphadbcebeoaaaGreatDoorJRef1IntTextLawNumbersLaidBytesIn
import Derived.Test.YthphadbcebeoaaaGreatDoorJDAbs2SUn
import Derived.Test.YthphadbcebeoaaaGreatDoorJREntryEntry2ErAll
namespace Go.Proofs.YthphadbcebeoaaaGreatDoor
open Go.RowKit Go.Lib Go.Maps

/-- A record as a value, and its variable. -/
def Rc.cells (r : Rc) : Array Value := #[.int .u8 (r.kind : Int), .int .u64 (r.term : Int), .int .u64 (r.place : Int), .int .u64 (r.ent.term : Int), .int .i64 r.ent.kind, .int .u64 (r.ent.client : Int), .int .u64 (r.ent.seq : Int), .string r.ent.sql]
theorem own_one (w : World) (x : Value) : (w.alloc (.cells #[x] 5)).ownsRow w.heap.size 5 1 (.slice (some ⟨w.heap.size, 0, none⟩) 1 1) 1 [x] :=
  ⟨rfl, .inr ⟨w.heap.size, 1, #[x], rfl, Nat.le_refl _, heap_alloc_new _ _, Nat.le_refl _, by decide, rfl, rfl⟩⟩
theorem byteCells_one (b : UInt8) : byteCells [b] = [.int .u8 (b.toNat : Int)] := rfl
theorem byte_of {k : Nat} (h : k < 256) : (UInt8.ofNat k).toNat = k := by simp [UInt8.toNat_ofNat']; omega
/-- What frame tells: the record's bytes, in a row of its own; of an entry that may not be an error. -/
def FramePost (r : Rc) (w : World) (e : Ending) (w' : World) : Prop :=
  Below w.heap.size w w' ∧ (((r.kind = 4 → r.ent.may = true) ∧ ∃ v', e = .returned (.tuple #[v', .nilIface]) ∧ w'.ownsRow w.heap.size 5 1 v' r.bytes.length (byteCells r.bytes)) ∨
    (r.kind = 4 ∧ r.ent.may = false ∧ ∃ (b : Nat) (pl : Int), e = .returned (.tuple #[.slice none 0 0, ev b]) ∧ w.heap.size ≤ b ∧ ErrAt w' b pl 20))

theorem own_base {w : World} {B B' : Nat} {e : TypeId} {sz : Nat} {v : Value} {n : Nat} {xs : List Value} (h : w.ownsRow B e sz v n xs) (hb : B' ≤ B) : w.ownsRow B' e sz v n xs := by
  obtain ⟨h1, h2 | ⟨g, cap, cur, q3, q4, q5⟩⟩ := h
  · exact ⟨h1, .inl h2⟩
  · exact ⟨h1, .inr ⟨g, cap, cur, q3, Nat.le_trans hb q4, q5⟩⟩
theorem rb_own2 {w : World} {B : Nat} {v : Value} {l : List UInt8} (h : w.ownsRow B 5 1 v l.length (byteCells l)) (hl : l.length ≤ 1000000000) : RBp w w.heap.size v l := rb_own h (by omega)
/-- What stands behind the record's first byte: its variable, and the row. -/
theorem start_rec (w : World) (k : Int) (c : Array Value) (i : Nat) (u : Value) (hc : c[i]? = some u) :
    ((w.alloc (.cells c 84)).alloc (.cells #[.int .u8 k] 5)).ownsRow (w.heap.size + 1) 5 1 (.slice (some ⟨w.heap.size + 1, 0, none⟩) 1 1) 1 [.int .u8 k] ∧
    Below w.heap.size w ((w.alloc (.cells c 84)).alloc (.cells #[.int .u8 k] 5)) ∧
    ((w.alloc (.cells c 84)).alloc (.cells #[.int .u8 k] 5)).cell? ⟨w.heap.size, i, none⟩ = some u ∧
    ((w.alloc (.cells c 84)).alloc (.cells #[.int .u8 k] 5)).heap.size = w.heap.size + 2 := by
  have h1 := own_one (w.alloc (.cells c 84)) (.int .u8 k)
  rw [World.size_alloc] at h1
  refine ⟨h1, ((Below.refl w.heap.size w).alloc (Nat.le_refl _) _).alloc (by simp) _, ?_, by simp⟩
  have h2 : (w.alloc (.cells c 84)).heap[w.heap.size]? = some (.cells c 84 (0, 0)) := heap_alloc_new _ _
  have h3 : ((w.alloc (.cells c 84)).alloc (.cells #[.int .u8 k] 5)).heap[w.heap.size]? = some (.cells c 84 (0, 0)) := (Below.heap_alloc _ _ _ (by simp)).trans h2
  exact (Dk.cellB h3 _).1.trans hc

set_option maxHeartbeats 6400000 in
set_option maxRecDepth 100000 in
theorem frame_hd (k t p : Nat) (g : GE) (w : World) (hk : k = 1 ∨ k = 2) (ht : t < 18446744073709551616) (hp : p < 18446744073709551616) (hT : ST w) :
    Calls Tryz.prog 59 #[.agg (Rc.cells ⟨k, t, p, g⟩)] w fun e w' => FramePost ⟨k, t, p, g⟩ w e w' := by
  unfold Rc.cells
  dsimp only
  have lt := uvarint_length64 ht
  have lp := uvarint_length64 hp
  have hk2 : (k : Int) = 1 ∨ (k : Int) = 2 := by omega
  have HK : Hid ((⟨k, t, p, g⟩ : Rc).pay = [UInt8.ofNat k] ++ uvarint t ++ uvarint p ∧ (UInt8.ofNat k).toNat = k ∧ k ≠ 4) := by
    refine ⟨?_, byte_of (by omega), by omega⟩
    unfold Rc.pay Rc.body
    rw [if_neg (by dsimp only; omega), if_neg (by dsimp only; omega)]
    simp
  have HS := hide (start_rec w (k : Int) #[.int .u8 (k : Int), .int .u64 (t : Int), .int .u64 (p : Int), .int .u64 (g.term : Int), .int .i64 g.kind, .int .u64 (g.client : Int), .int .u64 (g.seq : Int), .string g.sql] 2 (.int .u64 (p : Int)) rfl)
  have HT := hide hT
  clear hT hk
  generalize hkk : (k : Int) = kk at *
  have HKK := hide hkk
  clear hkk
  go_enter Tryz.func59, Tryz.ntmps59
  rcases hk2 with rfl | rfl
  all_goals
    go_wp2_with (first
      | (go_at_call 78; refine (putUint_any t _ ht).mono ?_; rintro e w1 ⟨v1, rfl, o1, b1⟩; obtain ⟨q1, q2, q3, q4⟩ := unhide HS; have a1 := own_later q1 b1; have c1 := (b1.cell (p := ⟨w.heap.size, 2, none⟩) (by show w.heap.size < _; omega)).trans q3; have z1 : w.heap.size + 2 ≤ w1.heap.size := (by have := b1.size; omega); have B1 := hide (below_trans0 q2 b1); clear q1 q2 q3 q4 b1 HS)
      | (at_builtin; refine wpList_append_rb rfl (.tmp 19) (.tmp 22) rfl (w.heap.size + 1) _ 1 _ rfl a1 _ _ (uvarint t) rfl (rb_own o1 (by omega)) (by omega) (by omega) (by omega) ?_; intro v2 w2 a2 _ b2; have c2 := (b2.cell (p := ⟨w.heap.size, 2, none⟩) (Nat.lt_succ_self _)).trans c1; have z2 : w.heap.size + 2 ≤ w2.heap.size := Nat.le_trans z1 b2.size; have B2 := hide ((unhide B1).trans (b2.mono (Nat.le_succ _))); clear c1 a1 o1 B1 b2)
      | (go_at_call 78; refine (putUint_any p _ hp).mono ?_; rintro e w3 ⟨v3, rfl, o3, b3⟩; have a3 := own_later a2 b3; have z3 : w.heap.size + 2 ≤ w3.heap.size := Nat.le_trans z2 b3.size; have B3 := hide (below_trans0 (unhide B2) b3); clear a2 c2 B2 b3)
      | (at_builtin; refine wpList_append_rb rfl (.tmp 24) (.tmp 27) rfl (w.heap.size + 1) _ _ _ rfl a3 _ _ (uvarint p) rfl (rb_own o3 (by omega)) (by omega) (by omega) (by omega) ?_; intro v4 w4 a4 _ b4; have B4 := hide ((unhide B3).trans (b4.mono (Nat.le_succ _))); clear a3 o3 B3 b4)
      | (go_at_call 80; go_loud (refine (frame_own v4 _ w4 (own_rb3 (x := (⟨k, t, p, g⟩ : Rc).pay) a4 (by rw [(unhide HK).1]; simp; omega) (by rw [(unhide HK).1]; simp [byteCells, (unhide HK).2.1, unhide HKK]) (by rw [(unhide HK).1]; simp; omega)) (by rw [(unhide HK).1]; simp; omega) ((unhide HT).below (unhide B4) (unhide HT).lt)).mono ?_; rintro e w5 ⟨v5, rfl, o5, b5⟩)))
    go_ret2
    exact ⟨below_trans0 (unhide B4) b5, .inl ⟨fun h => absurd h (unhide HK).2.2, _, rfl, own_base o5 (unhide B4).size⟩⟩

set_option maxHeartbeats 6400000 in
set_option maxRecDepth 100000 in
theorem frame_cut (t p : Nat) (g : GE) (w : World) (hp : p < 18446744073709551616) (hT : ST w) :
    Calls Tryz.prog 59 #[.agg (Rc.cells ⟨3, t, p, g⟩)] w fun e w' => FramePost ⟨3, t, p, g⟩ w e w' := by
  unfold Rc.cells
  dsimp only
  have lp := uvarint_length64 hp
  have HK : Hid ((⟨3, t, p, g⟩ : Rc).pay = [3] ++ uvarint p) := hide (by simp [Rc.pay, Rc.body])
  have HS := hide (start_rec w 3 #[.int .u8 3, .int .u64 (t : Int), .int .u64 (p : Int), .int .u64 (g.term : Int), .int .i64 g.kind, .int .u64 (g.client : Int), .int .u64 (g.seq : Int), .string g.sql] 2 (.int .u64 (p : Int)) rfl)
  have HT := hide hT
  clear hT
  go_enter Tryz.func59, Tryz.ntmps59
  go_wp2_with (first
      | (go_at_call 78; refine (putUint_any p _ hp).mono ?_; rintro e w3 ⟨v3, rfl, o3, b3⟩; obtain ⟨q1, q2, q3, q4⟩ := unhide HS; have a3 := own_later q1 b3; have z3 : w.heap.size + 2 ≤ w3.heap.size := (by have := b3.size; omega); have B3 := hide (below_trans0 q2 b3); clear q1 q2 q3 q4 b3 HS)
      | (at_builtin; refine wpList_append_rb rfl (.tmp 24) (.tmp 27) rfl (w.heap.size + 1) _ _ _ rfl a3 _ _ (uvarint p) rfl (rb_own o3 (by omega)) (by omega) (by omega) (by omega) ?_; intro v4 w4 a4 _ b4; have B4 := hide ((unhide B3).trans (b4.mono (Nat.le_succ _))); clear a3 o3 B3 b4)
      | (go_at_call 80; refine (frame_own v4 _ w4 (own_rb3 (x := (⟨3, t, p, g⟩ : Rc).pay) a4 (by rw [unhide HK]; simp; omega) (by rw [unhide HK]; simp [byteCells]) (by rw [unhide HK]; simp; omega)) (by rw [unhide HK]; simp; omega) ((unhide HT).below (unhide B4) (unhide HT).lt)).mono ?_; rintro e w5 ⟨v5, rfl, o5, b5⟩))
  go_ret2
  exact ⟨below_trans0 (unhide B4) b5, .inl ⟨fun h => (by cases h), _, rfl, own_base o5 (unhide B4).size⟩⟩

set_option maxHeartbeats 6400000 in
set_option maxRecDepth 100000 in
theorem frame_ent (t p : Nat) (g : GE) (w : World) (hg : g.ok) (hm : g.may = true) (hT : ST w) :
    Calls Tryz.prog 59 #[.agg (Rc.cells ⟨4, t, p, g⟩)] w fun e w' => FramePost ⟨4, t, p, g⟩ w e w' := by
  have lg := ge_bytes_len hg hm
  have HE := hide (fun W : World => putEntry_any g W hg)
  have he : putEnt g (some []) = some g.bytes := putEnt_yes hm
  rw [he] at HE
  clear he
  unfold Rc.cells
  unfold GE.agg GE.cells at HE
  dsimp only at *
  have HK : Hid ((⟨4, t, p, g⟩ : Rc).pay = [4] ++ g.bytes) := hide (by simp [Rc.pay, Rc.body])
  have HS := hide (start_rec w 4 #[.int .u8 4, .int .u64 (t : Int), .int .u64 (p : Int), .int .u64 (g.term : Int), .int .i64 g.kind, .int .u64 (g.client : Int), .int .u64 (g.seq : Int), .string g.sql] 2 (.int .u64 (p : Int)) rfl)
  have HT := hide hT
  clear hT hg
  go_enter Tryz.func59, Tryz.ntmps59
  go_wp2_with (first
      | (go_at_call 79; refine (unhide HE _).mono ?_; rintro e w3 ⟨a3, k3, rfl, o3, b3⟩; obtain ⟨q1, q2, q3, q4⟩ := unhide HS; have a3 := own_later q1 b3; have z3 : w.heap.size + 2 ≤ w3.heap.size := (by have := b3.size; omega); have B3 := hide (below_trans0 q2 b3); clear q1 q2 q3 q4 b3 HS HE)
      | (at_builtin; refine wpList_append_rb rfl (.tmp 38) (.tmp 39) rfl (w.heap.size + 1) _ _ _ rfl a3 _ _ g.bytes rfl (rb_own o3 (by omega)) (by omega) (by omega) (by omega) ?_; intro v4 w4 a4 _ b4; have B4 := hide ((unhide B3).trans (b4.mono (Nat.le_succ _))); clear a3 o3 B3 b4)
      | (go_at_call 80; refine (frame_own v4 _ w4 (own_rb3 (x := (⟨4, t, p, g⟩ : Rc).pay) a4 (by rw [unhide HK]; simp; omega) (by rw [unhide HK]; simp [byteCells]) (by rw [unhide HK]; simp; omega)) (by rw [unhide HK]; simp; omega) ((unhide HT).below (unhide B4) (unhide HT).lt)).mono ?_; rintro e w5 ⟨v5, rfl, o5, b5⟩))
  go_ret2
  exact ⟨below_trans0 (unhide B4) b5, .inl ⟨fun _ => hm, _, rfl, own_base o5 (unhide B4).size⟩⟩

set_option maxHeartbeats 6400000 in
set_option maxRecDepth 100000 in
theorem frame_bad (t p : Nat) (g : GE) (w : World) (hg : g.ok) (hm : g.may = false) :
    Calls Tryz.prog 59 #[.agg (Rc.cells ⟨4, t, p, g⟩)] w fun e w' => FramePost ⟨4, t, p, g⟩ w e w' := by
  have HE := hide (fun W : World => putEntry_any g W hg)
  have he : putEnt g (some []) = none := putEnt_no hm
  rw [he] at HE
  clear he
  unfold Rc.cells
  unfold GE.agg GE.cells at HE
  dsimp only at *
  have HS := hide (start_rec w 4 #[.int .u8 4, .int .u64 (t : Int), .int .u64 (p : Int), .int .u64 (g.term : Int), .int .i64 g.kind, .int .u64 (g.client : Int), .int .u64 (g.seq : Int), .string g.sql] 2 (.int .u64 (p : Int)) rfl)
  clear hg
  go_enter Tryz.func59, Tryz.ntmps59
  go_wp2_with (first
      | (go_at_call 79; refine (unhide HE _).mono ?_; rintro e w3 ⟨b3, pl3, rfl, hB3, he3, b3'⟩))
  go_ret2
  obtain ⟨q1, q2, q3, q4⟩ := unhide HS
  exact ⟨below_trans0 q2 b3', .inr ⟨rfl, hm, b3, pl3, rfl, by omega, he3⟩⟩

theorem frame_any (r : Rc) (w : World) (hk : 1 ≤ r.kind ∧ r.kind ≤ 4) (ht : r.term < 18446744073709551616) (hp : r.place < 18446744073709551616) (hg : r.ent.ok) (hT : ST w) :
    Calls Tryz.prog 59 #[.agg r.cells] w fun e w' => FramePost r w e w' := by
  obtain ⟨k, t, p, g⟩ := r
  dsimp only at hk ht hp hg
  by_cases h4 : k = 4
  · subst h4
    cases hm : g.may with
    | true => exact frame_ent t p g w hg hm hT
    | false => exact frame_bad t p g w hg hm
  · by_cases h3 : k = 3
    · subst h3; exact frame_cut t p g w hp hT
    · exact frame_hd k t p g w (by omega) ht hp hT
end Go.Proofs.YthphadbcebeoaaaGreatDoor
/- The wal's records: what is read of their bytes. -/
namespace Go.Proofs.YthphadbcebeoaaaGreatDoor
open Go.RowKit Go.Lib Go.Maps

/-- The bytes l in block g, from its beginning. -/
def InB (w : World) (g N cap : Nat) (l : List UInt8) : Prop := g < w.heap.size ∧ N = l.length ∧ N ≤ cap ∧ cap ≤ maxLen ∧ N ≤ 1000000 ∧ ∀ j, j < N → w.cell? ⟨g, 0 + j, none⟩ = some (.int .u8 ((l.getD j 0).toNat : Int))
theorem InB.below {w w' : World} {g N cap : Nat} {l : List UInt8} (h : InB w g N cap l) (hb : Below w.heap.size w w') : InB w' g N cap l :=
  ⟨Nat.lt_of_lt_of_le h.1 hb.size, h.2.1, h.2.2.1, h.2.2.2.1, h.2.2.2.2.1, fun j hj => (hb.cell (p := ⟨g, 0 + j, none⟩) h.1).trans (h.2.2.2.2.2 j hj)⟩
theorem InB.drop {w : World} {g N cap : Nat} {l : List UInt8} (h : InB w g N cap l) (k : Nat) (hk : k < N) : RBp w w.heap.size (.slice (some ⟨g, k, none⟩) (N - k) (cap - k)) (l.drop k) := by
  obtain ⟨h1, h2, h3, h4, h5, h6⟩ := h
  have := rb_drop (w := w) (B := w.heap.size) (b := g) (off := 0) (cap := cap) (at' := k) (l := l) h1 (by omega) (by omega) h4 (by omega) (fun j hj => h6 j (by omega))
  rwa [Nat.zero_add, ← h2] at this
theorem InB.own {w : World} {B : Nat} {v : Value} {l : List UInt8} (h : w.ownsRow B 5 1 v l.length (byteCells l)) (hne : l ≠ []) (hl : l.length ≤ 1000000) : ∃ g cap, v = .slice (some ⟨g, 0, none⟩) l.length cap ∧ InB w g l.length cap l := by
  obtain ⟨g, cap, rfl, h1, h2, h3, h4, h5⟩ := own_open h hne
  exact ⟨g, cap, rfl, h2, rfl, h3, h4, hl, h5⟩

set_option maxHeartbeats 6400000 in
set_option maxRecDepth 100000 in
theorem payload_hd (k t p g N cap : Nat) (w : World) (hk : k = 1 ∨ k = 2) (ht : t < 18446744073709551616) (hp : p < 18446744073709551616) (hI : InB w g N cap (⟨k, t, p, zE⟩ : Rc).pay) :
    Calls Tryz.prog 74 #[.slice (some ⟨g, 0, none⟩) N cap] w fun e w' => e = .returned (.tuple #[.agg (Rc.cells ⟨k, t, p, zE⟩), .nilIface]) ∧ Below w.heap.size w w' := by
  obtain ⟨lt, hlt⟩ : ∃ x, x = (uvarint t).length := ⟨_, rfl⟩
  obtain ⟨lp, hlp⟩ : ∃ x, x = (uvarint p).length := ⟨_, rfl⟩
  have pt := uvarint_pos t
  have pp := uvarint_pos p
  have qt := uvarint_length64 ht
  have qp := uvarint_length64 hp
  have hpay : (⟨k, t, p, zE⟩ : Rc).pay = UInt8.ofNat k :: (uvarint t ++ uvarint p) := by
    unfold Rc.pay Rc.body
    rw [if_neg (by dsimp only; omega), if_neg (by dsimp only; omega)]
  rw [hpay] at hI
  have hN : N = 1 + lt + lp := by rw [hI.2.1, hlt, hlp]; simp; omega
  have hcap : N ≤ cap := hI.2.2.1
  have c0 : w.cell? ⟨g, 0, none⟩ = some (.int .u8 (k : Int)) := by
    have := hI.2.2.2.2.2 0 (by omega)
    simpa [byte_of (show k < 256 by omega)] using this
  have hgl : g < w.heap.size := hI.1
  have HU1 : Hid (∀ W : World, Below w.heap.size w W → Calls Tryz.prog 93 #[.slice (some ⟨g, 1, none⟩) (N - 1) (cap - 1)] W fun e w' => e = .returned (.tuple #[.int .u64 (t : Int), .int .i64 (lt : Int), .nilIface]) ∧ w' = W) := fun W hb => by
    refine uint_ok _ W.heap.size t lt 0 _ W ((hI.below hb).drop 1 (by omega)) ?_
    rw [List.drop_succ_cons, List.drop_zero, hlt]
    exact decU_uv t ht _
  have HU2 : Hid (∀ W : World, Below w.heap.size w W → Calls Tryz.prog 93 #[.slice (some ⟨g, 1 + lt, none⟩) (N - 1 - lt) (cap - 1 - lt)] W fun e w' => e = .returned (.tuple #[.int .u64 (p : Int), .int .i64 (lp : Int), .nilIface]) ∧ w' = W) := fun W hb => by
    have hd := (hI.below hb).drop (1 + lt) (by omega)
    rw [Nat.sub_sub, Nat.sub_sub]
    refine uint_ok _ W.heap.size p lp 0 _ W hd ?_
    have e : (UInt8.ofNat k :: (uvarint t ++ uvarint p)).drop (1 + lt) = uvarint p := by rw [Nat.add_comm, List.drop_succ_cons, hlt, List.drop_left]
    rw [e, hlp]
    have := decU_uv p hp []
    rwa [List.append_nil] at this
  have k1 : cap ≠ 1 := by omega
  have k2 : 1 ≤ N := by omega
  have k3 : lt ≤ N - 1 := by omega
  have k4 : cap - 1 ≠ lt := by omega
  have k5 : ¬ ((lp : Int) < ((N - 1 - lt : Nat) : Int)) := by omega
  have k6 : N - 1 ≤ cap - 1 := by omega
  have k7 : ¬ (N : Int) = 0 := by omega
  have hk2 : (k : Int) = 1 ∨ (k : Int) = 2 := by omega
  unfold Rc.cells
  dsimp only [zE]
  have n2 : 0 < lt := by omega
  have n4 : N ≤ 1000000 := hI.2.2.2.2.1
  clear hI hpay hN hlt hlp pt pp qt qp hk
  generalize hkk : (k : Int) = kk at *
  clear hkk
  go_enter Tryz.func74, Tryz.ntmps74
  rcases hk2 with rfl | rfl
  · go_wp2_with (first
      | (go_at_call 93; refine (unhide HU1 _ (((Below.refl _ _).alloc (Nat.le_refl _) _).alloc (by simp) _)).mono ?_; rintro e w1 ⟨rfl, rfl⟩; clear HU1)
      | (go_at_call 93; refine (unhide HU2 _ (((Below.refl _ _).alloc (Nat.le_refl _) _).alloc (by simp) _)).mono ?_; rintro e w1 ⟨rfl, rfl⟩; clear HU2))
    refine bodyPost_ret (v := .tuple #[.agg #[.int .u8 1, .int .u64 (t : Int), .int .u64 (p : Int), .int .u64 0, .int .i64 0, .int .u64 0, .int .u64 0, .string ⟨#[]⟩], .nilIface]) ?_ rfl ?_
    · rw [results_cell_tmp rfl]
      go_simp
      try rfl
    exact ⟨rfl, ((Below.refl _ _).alloc (Nat.le_refl _) _).alloc (by simp) _⟩
  · go_wp2_with (first
      | (go_at_call 93; refine (unhide HU1 _ (((Below.refl _ _).alloc (Nat.le_refl _) _).alloc (by simp) _)).mono ?_; rintro e w1 ⟨rfl, rfl⟩; clear HU1)
      | (go_at_call 93; refine (unhide HU2 _ (((Below.refl _ _).alloc (Nat.le_refl _) _).alloc (by simp) _)).mono ?_; rintro e w1 ⟨rfl, rfl⟩; clear HU2))
    refine bodyPost_ret (v := .tuple #[.agg #[.int .u8 2, .int .u64 (t : Int), .int .u64 (p : Int), .int .u64 0, .int .i64 0, .int .u64 0, .int .u64 0, .string ⟨#[]⟩], .nilIface]) ?_ rfl ?_
    · rw [results_cell_tmp rfl]
      go_simp
      try rfl
    exact ⟨rfl, ((Below.refl _ _).alloc (Nat.le_refl _) _).alloc (by simp) _⟩

set_option maxHeartbeats 6400000 in
set_option maxRecDepth 100000 in
theorem payload_cut (p g N cap : Nat) (w : World) (hp : p < 18446744073709551616) (hI : InB w g N cap (rcC p).pay) :
    Calls Tryz.prog 74 #[.slice (some ⟨g, 0, none⟩) N cap] w fun e w' => e = .returned (.tuple #[.agg (rcC p).cells, .nilIface]) ∧ Below w.heap.size w w' := by
  obtain ⟨lp, hlp⟩ : ∃ x, x = (uvarint p).length := ⟨_, rfl⟩
  have pp := uvarint_pos p
  have qp := uvarint_length64 hp
  have hpay : (rcC p).pay = 3 :: uvarint p := by simp [rcC, Rc.pay, Rc.body]
  rw [hpay] at hI
  have hN : N = 1 + lp := by rw [hI.2.1, hlp]; simp; omega
  have hcap : N ≤ cap := hI.2.2.1
  have c0 : w.cell? ⟨g, 0, none⟩ = some (.int .u8 3) := by
    have := hI.2.2.2.2.2 0 (by omega)
    simpa using this
  have hgl : g < w.heap.size := hI.1
  have HU1 : Hid (∀ W : World, Below w.heap.size w W → Calls Tryz.prog 93 #[.slice (some ⟨g, 1, none⟩) (N - 1) (cap - 1)] W fun e w' => e = .returned (.tuple #[.int .u64 (p : Int), .int .i64 (lp : Int), .nilIface]) ∧ w' = W) := fun W hb => by
    refine uint_ok _ W.heap.size p lp 0 _ W ((hI.below hb).drop 1 (by omega)) ?_
    rw [List.drop_succ_cons, List.drop_zero, hlp]
    have := decU_uv p hp []
    rwa [List.append_nil] at this
  have k1 : cap ≠ 1 := by omega
  have k2 : 1 ≤ N := by omega
  have k5 : ¬ ((lp : Int) < ((N - 1 : Nat) : Int)) := by omega
  have k6 : N - 1 ≤ cap - 1 := by omega
  have k7 : ¬ (N : Int) = 0 := by omega
  unfold rcC Rc.cells
  dsimp only [zE]
  have n4 : N ≤ 1000000 := hI.2.2.2.2.1
  clear hI hpay hN hlp pp qp
  go_enter Tryz.func74, Tryz.ntmps74
  go_wp2_with (first
      | (go_at_call 93; refine (unhide HU1 _ (((Below.refl _ _).alloc (Nat.le_refl _) _).alloc (by simp) _)).mono ?_; rintro e w1 ⟨rfl, rfl⟩; clear HU1))
  refine bodyPost_ret (v := .tuple #[.agg #[.int .u8 3, .int .u64 0, .int .u64 (p : Int), .int .u64 0, .int .i64 0, .int .u64 0, .int .u64 0, .string ⟨#[]⟩], .nilIface]) ?_ rfl ?_
  · rw [results_cell_tmp rfl]
    go_simp
    try rfl
  exact ⟨rfl, ((Below.refl _ _).alloc (Nat.le_refl _) _).alloc (by simp) _⟩

/-- A record's variable. -/
def Rv (w : World) (p : Nat) (c : Array Value) : Prop := w.heap[p]? = some (.cells c 84 (0, 0))
theorem Rv.cells {w : World} {p : Nat} {a0 a1 a2 a3 a4 a5 a6 a7 : Value} (h : Rv w p #[a0, a1, a2, a3, a4, a5, a6, a7]) : w.cell? ⟨p, 0, none⟩ = some a0 ∧ w.cell? ⟨p, 1, none⟩ = some a1 ∧ w.cell? ⟨p, 2, none⟩ = some a2 ∧ w.cell? ⟨p, 3, none⟩ = some a3 ∧ w.cell? ⟨p, 4, none⟩ = some a4 ∧ w.cell? ⟨p, 5, none⟩ = some a5 ∧ w.cell? ⟨p, 6, none⟩ = some a6 ∧ w.cell? ⟨p, 7, none⟩ = some a7 :=
  ⟨(Dk.cellB h 0).1, (Dk.cellB h 1).1, (Dk.cellB h 2).1, (Dk.cellB h 3).1, (Dk.cellB h 4).1, (Dk.cellB h 5).1, (Dk.cellB h 6).1, (Dk.cellB h 7).1⟩
theorem Rv.frz {w : World} {p : Nat} {c : Array Value} (h : Rv w p c) (i : Nat) : w.frozen? ⟨p, i, none⟩ = false := (Dk.cellB h i).2

set_option maxHeartbeats 12800000 in
set_option maxRecDepth 100000 in
theorem payload_ent (x : GE) (g N cap : Nat) (w : World) (hE : ET w) (hx : x.ok) (hm : x.may = true) (hI : InB w g N cap (rcE x).pay) :
    Calls Tryz.prog 74 #[.slice (some ⟨g, 0, none⟩) N cap] w fun e w' => e = .returned (.tuple #[.agg (rcE x).cells, .nilIface]) ∧ Below w.heap.size w w' := by
  obtain ⟨lp, hlp⟩ : ∃ y, y = x.bytes.length := ⟨_, rfl⟩
  have hpay : (rcE x).pay = 4 :: x.bytes := by simp [rcE, Rc.pay, Rc.body]
  have pp : 0 < x.bytes.length := by
    have := uvarint_pos x.term
    simp [GE.bytes]; omega
  rw [hpay] at hI
  have hN : N = 1 + lp := by rw [hI.2.1, hlp]; simp; omega
  have hcap : N ≤ cap := hI.2.2.1
  have c0 : w.cell? ⟨g, 0, none⟩ = some (.int .u8 4) := by
    have := hI.2.2.2.2.2 0 (by omega)
    simpa using this
  have hgl : g < w.heap.size := hI.1
  obtain ⟨W0, hW0⟩ : ∃ W0, W0 = (w.alloc (.cells #[.int .u8 0, .int .u64 0, .int .u64 0, .int .u64 0, .int .i64 0, .int .u64 0, .int .u64 0, .string ⟨#[]⟩] 84)).alloc (.cells #[.int .u8 4, .int .u64 0, .int .u64 0, .int .u64 0, .int .i64 0, .int .u64 0, .int .u64 0, .string ⟨#[]⟩] 84) := ⟨_, rfl⟩
  have B0 : Below w.heap.size w W0 := by rw [hW0]; exact ((Below.refl _ _).alloc (Nat.le_refl _) _).alloc (by simp) _
  have V0 : Rv W0 w.heap.size #[.int .u8 0, .int .u64 0, .int .u64 0, .int .u64 0, .int .i64 0, .int .u64 0, .int .u64 0, .string ⟨#[]⟩] := by
    rw [hW0]; exact (Below.heap_alloc _ _ _ (by simp)).trans (heap_alloc_new _ _)
  have V1 : Rv W0 (w.heap.size + 1) #[.int .u8 4, .int .u64 0, .int .u64 0, .int .u64 0, .int .i64 0, .int .u64 0, .int .u64 0, .string ⟨#[]⟩] := by
    rw [hW0]; have := heap_alloc_new (w.alloc (.cells #[.int .u8 0, .int .u64 0, .int .u64 0, .int .u64 0, .int .i64 0, .int .u64 0, .int .u64 0, .string ⟨#[]⟩] 84)) (.cells #[.int .u8 4, .int .u64 0, .int .u64 0, .int .u64 0, .int .i64 0, .int .u64 0, .int .u64 0, .string ⟨#[]⟩] 84); rwa [World.size_alloc] at this
  have Z0 : W0.heap.size = w.heap.size + 2 := by rw [hW0]; simp
  have HU1 : Hid (Calls Tryz.prog 94 #[.slice (some ⟨g, 1, none⟩) (N - 1) (cap - 1)] W0 fun e w' => e = .returned (.tuple #[.agg #[.int .u64 (x.term : Int), .int .i64 x.kind, .int .u64 (x.client : Int), .int .u64 (x.seq : Int), .string x.sql], .int .i64 (lp : Int), .nilIface]) ∧ Rv w' w.heap.size #[.int .u8 0, .int .u64 0, .int .u64 0, .int .u64 0, .int .i64 0, .int .u64 0, .int .u64 0, .string ⟨#[]⟩] ∧ Rv w' (w.heap.size + 1) #[.int .u8 4, .int .u64 0, .int .u64 0, .int .u64 0, .int .i64 0, .int .u64 0, .int .u64 0, .string ⟨#[]⟩] ∧ Below w.heap.size w w') := by
    have hd := (hI.below B0).drop 1 (by omega)
    rw [List.drop_succ_cons, List.drop_zero] at hd
    refine (entry_any _ _ _ (hE.below B0 hE.lt) hd).mono ?_
    intro e w' h
    have hb := ent_back x hx hm []
    rw [List.append_nil] at hb
    rw [hb] at h
    obtain ⟨h1, h2⟩ := h
    exact ⟨by rw [h1, hlp]; rfl, (h2.block _ (by omega)).trans V0, (h2.block _ (by omega)).trans V1, below_trans0 B0 h2⟩
  have k1 : cap ≠ 1 := by omega
  have k2 : 1 ≤ N := by omega
  have k5 : ¬ ((lp : Int) < ((N - 1 : Nat) : Int)) := by omega
  have k6 : N - 1 ≤ cap - 1 := by omega
  have k7 : ¬ (N : Int) = 0 := by omega
  unfold rcE Rc.cells
  dsimp only
  have n4 : N ≤ 1000000 := hI.2.2.2.2.1
  clear hI hpay hN hlp pp B0 V0 V1 hE hx hm
  go_enter Tryz.func74, Tryz.ntmps74
  go_wp2_with (first
      | (go_at_call 94; rw [← hW0]; refine (unhide HU1).mono ?_; rintro e w1 ⟨rfl, r0, r1, b1⟩; clear HU1; obtain ⟨x0, x1, x2, x3, x4, x5, x6, x7⟩ := r0.cells; obtain ⟨y0, y1, y2, y3, y4, y5, y6, y7⟩ := r1.cells; have fx0 := r0.frz 0; have fx1 := r0.frz 1; have fx2 := r0.frz 2; have fx3 := r0.frz 3; have fx4 := r0.frz 4; have fx5 := r0.frz 5; have fx6 := r0.frz 6; have fx7 := r0.frz 7; have fy3 := r1.frz 3; have fy4 := r1.frz 4; have fy5 := r1.frz 5; have fy6 := r1.frz 6; have fy7 := r1.frz 7; have HB := hide b1; clear b1 r0 r1))
  refine bodyPost_ret (v := .tuple #[.agg #[.int .u8 4, .int .u64 0, .int .u64 0, .int .u64 (x.term : Int), .int .i64 x.kind, .int .u64 (x.client : Int), .int .u64 (x.seq : Int), .string x.sql], .nilIface]) ?_ rfl ?_
  · rw [results_cell_tmp rfl]
    go_simp
    try rfl
  refine ⟨rfl, ?_⟩
  have hb := unhide HB
  repeat refine Below.setCell (p := ⟨_, _, none⟩) ?_ (by first | exact Nat.le_refl _ | exact Nat.le_succ _) _
  exact hb

theorem payload_any (r : Rc) (g N cap : Nat) (w : World) (hE : ET w) (hr : r.ok) (hI : InB w g N cap r.pay) :
    Calls Tryz.prog 74 #[.slice (some ⟨g, 0, none⟩) N cap] w fun e w' => e = .returned (.tuple #[.agg r.cells, .nilIface]) ∧ Below w.heap.size w w' := by
  obtain ⟨k, t, p, x⟩ := r
  obtain ⟨h1, h2, h3, h4, h5, h6, h7, h8⟩ := hr
  dsimp only at h1 h2 h3 h4 h5 h6 h7 h8
  by_cases e4 : k = 4
  · subst e4
    obtain ⟨hm, rfl, rfl⟩ := h6 rfl
    exact payload_ent x g N cap w hE h5 hm hI
  · obtain rfl := h8 e4
    by_cases e3 : k = 3
    · subst e3
      obtain rfl := h7 rfl
      exact payload_cut p g N cap w h4 hI
    · exact payload_hd k t p g N cap w (by omega) h3 h4 hI
end Go.Proofs.YthphadbcebeoaaaGreatDoor
