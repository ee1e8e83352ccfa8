/- SnapChunks: what the calls of one round do. -/
import Derived.Test.YtpminalccnhkjaaGreatDoorSBuild3
import Derived.Test.YtpminalccnhkjaaGreatDoorJSSaveDKnownSKnown
namespace Go.Proofs.YtpminalccnhkjaaGreatDoor
open Go.RowKit Go.Lib

/-- What stands at the head of SnapChunks' loop: the builder has the first bytes. -/
def CR (W1 wr : World) (p I T on : Nat) (l : List UInt8) (k has : Nat) (wh : Bool) : Prop :=
  has ≤ l.length ∧ BL wr p I T (l.take has) wh ∧ Below p W1 wr ∧ (wh = true → has = l.length) ∧ (wh = false → on ≤ k → 200 * (k - on) ≤ has)
/-- What the round's calls find: the box of the snapshot at block q, ahead of the builder; what came in. -/
structure CF (w W1 : World) (p q I T : Nat) (v : Value) (l : List UInt8) : Prop where
  sv : Sv W1 q (.int .u64 (I : Int)) (.int .u64 (T : Int)) v
  qp : q < p
  wq : w.heap.size ≤ q
  pz : p ≤ W1.heap.size
  old : Below w.heap.size w W1
  rb : RBp w w.heap.size v l
  few : l.length ≤ 3000
theorem CF.below {w W1 wr : World} {p q I T : Nat} {v : Value} {l : List UInt8} (h : CF w W1 p q I T v l) (hb : Below p W1 wr) : Below w.heap.size w wr := h.old.trans (hb.mono (by have := h.wq; have := h.qp; omega))
theorem CF.svr {w W1 wr : World} {p q I T : Nat} {v : Value} {l : List UInt8} (h : CF w W1 p q I T v l) (hb : Below p W1 wr) : Sv wr q (.int .u64 (I : Int)) (.int .u64 (T : Int)) v := h.sv.below hb h.qp
theorem CF.rbr {w W1 wr : World} {p q I T : Nat} {v : Value} {l : List UInt8} (h : CF w W1 p q I T v l) (hb : Below p W1 wr) : RBp wr wr.heap.size v l := rb_later h.rb (h.below hb) (h.below hb).size
theorem rb_sliced {W : World} {B : Nat} {a : Option Addr} {n cap off en : Nat} {l : List UInt8} (h : RBp W B (.slice a n cap) l) (ho : off ≤ n) (hen : en = min (off + 200) n) (hl : n ≤ 3000) : RBp W B (sliced a off en cap 1) ((l.drop off).take 200) := by
  obtain ⟨h0, ⟨e, rfl⟩ | ⟨b, o, c, hb, h1, h2, e, hc⟩⟩ := h
  · injection e with e1 e2 e3
    subst e1 e2 e3
    obtain rfl : off = 0 := by omega
    obtain rfl : en = 0 := by omega
    exact ⟨by simp, .inl ⟨by simp [sliced], by simp⟩⟩
  · injection e with e1 e2 e3
    subst e1 e2 e3
    have hlen : ((l.drop off).take 200).length = en - off := by simp; omega
    have key : ∀ j, j < en - off → W.cell? ⟨b, o + off + j, none⟩ = some (.int .u8 ((((l.drop off).take 200).getD j 0).toNat : Int)) := fun j hj => by
      have h3 := hc (off + j) (by omega)
      rw [← Nat.add_assoc] at h3
      rw [h3]
      have : ((l.drop off).take 200).getD j 0 = l.getD (off + j) 0 := by
        simp only [List.getD_eq_getElem?_getD]
        rw [List.getElem?_take_of_lt (by omega), List.getElem?_drop]
      rw [this]
    by_cases hz : cap = off
    · refine ⟨by rw [hlen]; omega, .inr ⟨b, o, cap - off, hb, by rw [hlen]; omega, by omega, by rw [hlen]; simp [sliced, hz], fun j hj => ?_⟩⟩
      rw [hlen] at hj; omega
    · refine ⟨by rw [hlen]; omega, .inr ⟨b, o + off, cap - off, hb, by rw [hlen]; omega, by omega, by rw [hlen]; simp [sliced, hz, Addr.add], fun j hj => ?_⟩⟩
      rw [hlen] at hj; exact key j hj
/-- The round's numbers: where the chunk ends, how many bytes it has, what the builder has behind it. -/
structure CN (l : List UInt8) (off en m has has' : Nat) (wh wh' dn : Bool) : Prop where
  offn : off ≤ l.length
  hen : en = min (off + 200) l.length
  hm : m = en - off
  hdn : dn = decide (l.length ≤ off + 200)
  next : (wh = false ∧ off = has ∧ has' = en ∧ wh' = dn) ∨ ((wh = true ∨ off ≠ has) ∧ has' = has ∧ wh' = wh)
theorem CN.len {l : List UInt8} {off en m has has' : Nat} {wh wh' dn : Bool} (h : CN l off en m has has' wh wh' dn) : m = ((l.drop off).take 200).length := by
  have := h.offn; have := h.hen; have := h.hm
  simp; omega
theorem CR.next {W1 wr w' : World} {p I T on k off en m has has' : Nat} {l : List UInt8} {wh wh' dn : Bool} (h : CR W1 wr p I T on l k has wh) (hn : CN l off en m has has' wh wh' dn) (hk : on ≤ k → off = has) (hb : BL w' p I T (l.take has') wh') (hw : Below p W1 w') : CR W1 w' p I T on l (k + 1) has' wh' := by
  obtain ⟨h1, h2, h3, h4, h5⟩ := h
  have e1 := hn.offn; have e2 := hn.hen; have e3 := hn.hdn
  refine ⟨?_, hb, hw, ?_, ?_⟩
  · rcases hn.next with ⟨_, _, a, _⟩ | ⟨_, a, _⟩ <;> omega
  · intro hh
    rcases hn.next with ⟨_, _, a, b⟩ | ⟨_, a, b⟩
    · rw [b, e3] at hh
      have := of_decide_eq_true hh
      omega
    · rw [b] at hh; rw [a]; exact h4 hh
  · intro hh hon
    rcases hn.next with ⟨c, d, a, b⟩ | ⟨c, a, b⟩
    · rw [b, e3] at hh
      have := of_decide_eq_false hh
      by_cases hok : on ≤ k
      · have := h5 c hok; omega
      · omega
    · rw [b] at hh
      rcases c with c | c
      · rw [c] at hh; cases hh
      · by_cases hok : on ≤ k
        · exact absurd (hk hok) c
        · omega
theorem CR.drew {W1 wr : World} {p I T on k has : Nat} {l : List UInt8} {wh : Bool} (h : CR W1 wr p I T on l k has wh) : CR W1 wr.drew p I T on l k has wh :=
  ⟨h.1, h.2.1.later (drew_below _ 1), h.2.2.1.trans ((drew_below _ 1).mono (Nat.le_of_lt h.2.1.lt)), h.2.2.2⟩
theorem take_more {l : List UInt8} {off en : Nat} (ho : off ≤ l.length) (hen : en = min (off + 200) l.length) : l.take off ++ (l.drop off).take 200 = l.take en := by
  have e : l.take en = l.take off ++ (l.drop off).take (en - off) := by
    rw [show en = off + (en - off) by omega, List.take_add, Nat.add_sub_cancel_left]
  rw [e]
  congr 1
  by_cases h : off + 200 ≤ l.length
  · rw [show en - off = 200 by omega]
  · rw [List.take_of_length_le (by simp; omega), List.take_of_length_le (by simp; omega)]
/-- Add, whatever it is given. -/
theorem add_round {W1 wr w1 : World} {p I T on k off en m has has' ck : Nat} {ca : Option Addr} {l : List UInt8} {wh wh' dn : Bool} (h : CR W1 wr p I T on l k has wh) (hn : CN l off en m has has' wh wh' dn) (hl : l.length ≤ 3000) (hb : Below wr.heap.size wr w1) (hc : RBp w1 w1.heap.size (.slice ca m ck) ((l.drop off).take 200)) :
    Calls Tryz.prog 21 #[.pointer (some ⟨p, 0, none⟩), .int .i64 (off : Int), .slice ca m ck, .bool dn] w1 fun e w2 => e = .returned (.tuple #[.int .i64 (has' : Int), .bool wh']) ∧ BL w2 p I T (l.take has') wh' ∧ Below p W1 w2 := by
  obtain ⟨h1, h2, h3, _⟩ := h
  have hlen := hn.len
  have e1 := hn.offn; have e2 := hn.hen; have e3 := hn.hm
  have hL : (l.take has).length = has := by simp; omega
  have hb1 : Below p W1 w1 := h3.trans (hb.mono (Nat.le_of_lt h2.lt))
  rcases hn.next with ⟨rfl, rfl, rfl, rfl⟩ | ⟨c, rfl, rfl⟩
  · refine (add_yes ca ck _ (h2.later hb) hL.symm hlen hc (by omega)).mono ?_
    rintro e w2 ⟨rfl, hB, hb2⟩
    rw [take_more e1 e2] at hB
    have e4 : off + m = has' := by omega
    rw [e4]
    exact ⟨rfl, hB, hb1.trans hb2⟩
  · refine (add_not off ca m ck dn (h2.later hb) (by rw [hL]; exact c)).mono ?_
    rintro e w2 ⟨rfl, hB, hb2⟩
    rw [hL]
    exact ⟨rfl, hB, hb1.trans hb2⟩
/-- Snapshot and same, where it is whole. -/
theorem whole_round {w W1 wr w2 : World} {p q I T on k off en m has has' n dk : Nat} {da : Option Addr} {l : List UInt8} {wh dn : Bool} (hf : CF w W1 p q I T (.slice da n dk) l) (h : CR W1 wr p I T on l k has wh) (hn : CN l off en m has has' wh true dn) (hk : on ≤ k → off = has) (hB : BL w2 p I T (l.take has') true) (hb2 : Below p W1 w2) :
    Calls Tryz.prog 22 #[.pointer (some ⟨p, 0, none⟩)] w2 fun e w3 => ∃ a1 n1 k1, e = .returned (.tuple #[.agg #[.int .u64 (I : Int), .int .u64 (T : Int), .slice a1 n1 k1], .bool true]) ∧
      Hid (Sv (w3.alloc (.cells #[.int .u64 (I : Int), .int .u64 (T : Int), .slice a1 n1 k1] 34)) q (.int .u64 (I : Int)) (.int .u64 (T : Int)) (.slice da n dk)) ∧
      Hid (Calls Tryz.prog 18 #[.agg #[.int .u64 (I : Int), .int .u64 (T : Int), .slice a1 n1 k1], .agg #[.int .u64 (I : Int), .int .u64 (T : Int), .slice da n dk]] (w3.alloc (.cells #[.int .u64 (I : Int), .int .u64 (T : Int), .slice a1 n1 k1] 34)) fun e w4 => e = .returned (.bool true) ∧ Hid (CR W1 w4 p I T on l (k + 1) has' true)) := by
  have hwl : has' = l.length := (h.next hn hk hB hb2).2.2.2.1 rfl
  have hfew := hf.few
  refine (snap_some hB (by simp; omega)).mono ?_
  rintro e w3 ⟨a1, k1, rfl, hr, hb3⟩
  have hlt := hB.lt
  have hb3' : Below p W1 w3 := hb2.trans (hb3.mono (Nat.le_of_lt hlt))
  have hbA : Below w3.heap.size w3 (w3.alloc (.cells #[.int .u64 (I : Int), .int .u64 (T : Int), .slice a1 (l.take has').length k1] 34)) := below_alloc _ (Nat.le_refl _)
  have hbA' : Below p W1 (w3.alloc (.cells #[.int .u64 (I : Int), .int .u64 (T : Int), .slice a1 (l.take has').length k1] 34)) := hb3'.trans (hbA.mono (Nat.le_trans (Nat.le_of_lt hlt) hb3.size))
  have htk : l.take has' = l := by rw [hwl, List.take_length]
  refine ⟨a1, _, k1, rfl, hf.svr hbA', ?_⟩
  have hr2 := rb_later hr hbA hbA.size
  have e5 : RBp (w3.alloc (.cells #[.int .u64 (I : Int), .int .u64 (T : Int), .slice a1 (l.take has').length k1] 34)) (w3.alloc (.cells #[.int .u64 (I : Int), .int .u64 (T : Int), .slice a1 (l.take has').length k1] 34)).heap.size (.slice da n dk) (l.take has') := by
    have := hf.rbr hbA'
    rw [htk]; rw [htk] at this; exact this
  refine (same_any hr2 e5).mono ?_
  rintro e w4 ⟨rfl, hb4⟩
  exact ⟨rfl, h.next hn hk (((hB.later hb3).later hbA).later hb4) (hbA'.trans (hb4.mono (by simp; have := hb3.size; omega)))⟩
/-- Snapshot and same, where it is not whole. -/
theorem part_round {w W1 wr w2 : World} {p q I T on k off en m has has' : Nat} {v : Value} {l : List UInt8} {wh dn : Bool} (hf : CF w W1 p q I T v l) (h : CR W1 wr p I T on l k has wh) (hn : CN l off en m has has' wh false dn) (hk : on ≤ k → off = has) (hB : BL w2 p I T (l.take has') false) (hb2 : Below p W1 w2) :
    Calls Tryz.prog 22 #[.pointer (some ⟨p, 0, none⟩)] w2 fun e w3 => e = .returned (.tuple #[.agg #[.int .u64 0, .int .u64 0, .slice none 0 0], .bool false]) ∧
      Hid (Sv (w3.alloc (.cells #[.int .u64 0, .int .u64 0, .slice none 0 0] 34)) q (.int .u64 (I : Int)) (.int .u64 (T : Int)) v) ∧
      Hid (Calls Tryz.prog 18 #[.agg #[.int .u64 0, .int .u64 0, .slice none 0 0], .agg #[.int .u64 0, .int .u64 0, .slice none 0 0]] (w3.alloc (.cells #[.int .u64 0, .int .u64 0, .slice none 0 0] 34)) fun e w4 => e = .returned (.bool true) ∧ Hid (CR W1 w4 p I T on l (k + 1) has' false)) := by
  refine (snap_none hB).mono ?_
  rintro e w3 ⟨rfl, hb3⟩
  have hlt := hB.lt
  have hb3' : Below p W1 w3 := hb2.trans (hb3.mono (Nat.le_of_lt hlt))
  have hbA : Below w3.heap.size w3 (w3.alloc (.cells #[.int .u64 0, .int .u64 0, .slice none 0 0] 34)) := below_alloc _ (Nat.le_refl _)
  have hbA' : Below p W1 (w3.alloc (.cells #[.int .u64 0, .int .u64 0, .slice none 0 0] 34)) := hb3'.trans (hbA.mono (Nat.le_trans (Nat.le_of_lt hlt) hb3.size))
  refine ⟨rfl, hf.svr hbA', ?_⟩
  refine (same_any (i := 0) (t := 0) (l := []) ⟨by decide, .inl ⟨rfl, rfl⟩⟩ ⟨by decide, .inl ⟨rfl, rfl⟩⟩).mono ?_
  rintro e w4 ⟨rfl, hb4⟩
  exact ⟨rfl, h.next hn hk (((hB.later hb3).later hbA).later hb4) (hbA'.trans (hb4.mono (by simp; have := hb3.size; omega)))⟩
/-- Chunk, Bytes and Add of a round. -/
theorem chunk_round {w W1 wr : World} {p q I T on k off en m has has' n dk : Nat} {da : Option Addr} {l : List UInt8} {wh wh' dn : Bool} (hf : CF w W1 p q I T (.slice da n dk) l) (hnl : n = l.length) (h : CR W1 wr p I T on l k has wh) (hn : CN l off en m has has' wh wh' dn) :
    Calls Tryz.prog 20 #[.agg #[.int .u64 (I : Int), .int .u64 (T : Int), .slice da n dk], .int .i64 (off : Int)] wr fun e w1 => ∃ ca ck, e = .returned (.tuple #[.slice ca m ck, .bool dn, .nilIface]) ∧ Hid (Sv w1 q (.int .u64 (I : Int)) (.int .u64 (T : Int)) (.slice da n dk)) ∧
      Hid (∀ sa, sa = (if dk = off then da else da.map (·.add off)) → Calls Tryz.prog 13 #[.slice ca m ck, .slice sa (en - off) (dk - off)] w1 fun e w2 => e = .returned (.bool true) ∧ w2 = w1) ∧
      Hid (Calls Tryz.prog 21 #[.pointer (some ⟨p, 0, none⟩), .int .i64 (off : Int), .slice ca m ck, .bool dn] w1 fun e w2 => e = .returned (.tuple #[.int .i64 (has' : Int), .bool wh']) ∧ Hid (BL w2 p I T (l.take has') wh' ∧ Below p W1 w2)) := by
  have hr := hf.rbr h.2.2.1
  have hfew := hf.few
  refine (chunk_any I T off m _ l wr hr (by omega) hn.offn hn.len).mono ?_
  rintro e w1 ⟨ca, ck, rfl, hc, hb⟩
  have hb1 : Below p W1 w1 := h.2.2.1.trans (hb.mono (Nat.le_of_lt h.2.1.lt))
  refine ⟨ca, ck, by rw [hn.hdn], hf.svr hb1, fun sa hsa => ?_, ?_⟩
  · have h6 := rb_sliced (off := off) (en := en) (hf.rbr hb1) (by rw [hnl]; exact hn.offn) (by rw [hnl]; exact hn.hen) (by omega)
    have e7 : sliced da off en dk 1 = .slice sa (en - off) (dk - off) := by rw [hsa]; simp [sliced]
    rw [e7] at h6
    exact bytes_any hc h6
  · refine (add_round h hn hfew hb hc).mono ?_
    rintro e w2 ⟨rfl, x, y⟩
    exact ⟨rfl, x, y⟩
end Go.Proofs.YtpminalccnhkjaaGreatDoor
