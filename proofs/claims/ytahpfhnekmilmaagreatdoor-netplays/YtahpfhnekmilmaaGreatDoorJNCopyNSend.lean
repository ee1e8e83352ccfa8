/- A net: Copy. -/
import Derived.Test.YtahpfhnekmilmaaGreatDoorJNFrNAdd
import Derived.Deep.MidRow
import Derived.Deep.Cut
namespace Go.Proofs.YtahpfhnekmilmaaGreatDoor
open Go.RowKit Go.Lib Go.Maps

set_option maxHeartbeats 3200000 in
set_option maxRecDepth 100000 in
theorem ncopy_bad {w : World} {p : Nat} {vf : Value} {L : List Fl} {O : Nat → Prop} (i : Int) (h : NX w p vf L O) (hi : i < 0 ∨ (L.length : Int) ≤ i) :
    Calls Tryz.prog 11 #[.pointer (some ⟨p, 0, none⟩), .int .i64 i] w fun e w' => ∃ b, e = .returned (ev b) ∧ w.heap.size ≤ b ∧ ErrAt w' b i 40 ∧ Below w.heap.size w w' := by
  have HA := hide (nat_bad i h hi)
  clear h hi
  go_enter Tryz.func11, Tryz.ntmps11
  go_wp2_with (first | (go_at_call 20; refine (unhide HA).mono ?_; rintro e w1 ⟨b, rfl, hb, he, hbl⟩))
  go_ret
  exact ⟨b, rfl, hb, ⟨(World.cell?_alloc_lt _ _ ⟨b, 0, none⟩ (lt_of_cell he.1)).trans he.1, (World.cell?_alloc_lt _ _ ⟨b, 1, none⟩ (lt_of_cell he.2)).trans he.2⟩, hbl.alloc (by have := hbl.size; omega) _⟩

set_option maxHeartbeats 3200000 in
set_option maxRecDepth 100000 in
theorem ncopy_full {w : World} {p : Nat} {vf : Value} {L : List Fl} {O : Nat → Prop} (i : Nat) (e : Fl) (h : NX w p vf L O) (hi : L[i]? = some e) (hf : L.length = 4096) :
    Calls Tryz.prog 11 #[.pointer (some ⟨p, 0, none⟩), .int .i64 (i : Int)] w fun ev w' => ev = .returned (.iface 35 (.int .i64 31)) ∧ Below w.heap.size w w' := by
  obtain ⟨ea, ek, hev⟩ := (h.dat e (List.mem_of_getElem? hi)).slice
  have HA := hide (nat_good i e h hi)
  rw [hev] at HA
  have HD : Hid (∀ w1, Below w.heap.size w w1 → Calls Tryz.prog 17 #[.pointer (some ⟨p, 0, none⟩), .agg #[.int .i64 e.fr, .int .i64 e.to', .slice ea e.d.length ek]] (w1.alloc (.cells #[.int .i64 e.fr, .int .i64 e.to', .slice ea e.d.length ek] 60)) fun ev w' => ev = .returned (.iface 35 (.int .i64 31)) ∧ Hid (Below w.heap.size w w')) := by
    intro w1 hb1
    have hb2 : Below w.heap.size w (w1.alloc (.cells #[.int .i64 e.fr, .int .i64 e.to', .slice ea e.d.length ek] 60)) := hb1.alloc (by have := hb1.size; omega) _
    refine (nadd_full e.fr e.to' ea e.d.length ek (h.below hb2) hf).mono ?_
    rintro ev w' ⟨rfl, hb3⟩
    exact ⟨rfl, hb2.trans (hb3.mono hb2.size)⟩
  clear h hi hev
  go_enter Tryz.func11, Tryz.ntmps11
  go_wp2_with (first
    | (go_at_call 20; refine (unhide HA).mono ?_; rintro e0 w1 ⟨rfl, hb1⟩; have P1 := hide (unhide HD w1 hb1); clear hb1)
    | (go_at_call 17; refine (unhide P1).mono ?_; rintro e0 w2 ⟨rfl, B2⟩))
  go_ret
  exact ⟨rfl, unhide B2⟩

set_option maxHeartbeats 3200000 in
set_option maxRecDepth 100000 in
theorem ncopy_any {w : World} {p : Nat} {vf : Value} {L : List Fl} {O : Nat → Prop} (i : Nat) (e : Fl) (h : NX w p vf L O) (hi : L[i]? = some e) (hf : L.length < 4096) :
    Calls Tryz.prog 11 #[.pointer (some ⟨p, 0, none⟩), .int .i64 (i : Int)] w fun ev w' => ∃ vf' O', ev = .returned .nilIface ∧ NX w' p vf' (L ++ [e]) O' ∧ FrO O w w' ∧ ∀ k, O' k → O k ∨ w.heap.size ≤ k := by
  obtain ⟨ea, ek, hev⟩ := (h.dat e (List.mem_of_getElem? hi)).slice
  have HA := hide (nat_good i e h hi)
  rw [hev] at HA
  have HD : Hid (∀ w1, Below w.heap.size w w1 → Calls Tryz.prog 17 #[.pointer (some ⟨p, 0, none⟩), .agg #[.int .i64 e.fr, .int .i64 e.to', .slice ea e.d.length ek]] (w1.alloc (.cells #[.int .i64 e.fr, .int .i64 e.to', .slice ea e.d.length ek] 60)) fun ev w' => ev = .returned .nilIface ∧ Hid (∃ vf' O', NX w' p vf' (L ++ [e]) O' ∧ FrO O w w' ∧ ∀ k, O' k → O k ∨ w.heap.size ≤ k)) := by
    intro w1 hb1
    have hb2 : Below w.heap.size w (w1.alloc (.cells #[.int .i64 e.fr, .int .i64 e.to', .slice ea e.d.length ek] 60)) := hb1.alloc (by have := hb1.size; omega) _
    have h2 := h.below hb2
    have hd2 := h2.dat e (List.mem_of_getElem? hi)
    generalize w1.alloc (.cells #[.int .i64 e.fr, .int .i64 e.to', .slice ea e.d.length ek] 60) = W2 at hb2 h2 hd2 ⊢
    rw [hev] at hd2
    refine (nadd_any e.fr e.to' (.slice ea e.d.length ek) e.d h2 hd2 hf).mono ?_
    rintro ev w' ⟨vf', O', rfl, hx, hfr, hO⟩
    have he : (⟨e.fr, e.to', .slice ea e.d.length ek, e.d⟩ : Fl) = e := by rw [← hev]
    rw [he] at hx
    exact ⟨rfl, vf', O', hx, (FrO.of_below hb2).trans hfr (fun _ _ hh => hh), fun k hk => (hO k hk).imp id (fun hh => Nat.le_trans hb2.size hh)⟩
  clear h hi hev
  go_enter Tryz.func11, Tryz.ntmps11
  go_wp2_with (first
    | (go_at_call 20; refine (unhide HA).mono ?_; rintro e0 w1 ⟨rfl, hb1⟩; have P1 := hide (unhide HD w1 hb1); clear hb1)
    | (go_at_call 17; refine (unhide P1).mono ?_; rintro e0 w2 ⟨rfl, B2⟩))
  go_ret
  obtain ⟨vf', O', hx, hfr, hO⟩ := unhide B2
  exact ⟨vf', O', rfl, hx, hfr, hO⟩
end Go.Proofs.YtahpfhnekmilmaaGreatDoor
/- A net: Send of a message that may be. -/
namespace Go.Proofs.YtahpfhnekmilmaaGreatDoor
open Go.RowKit Go.Lib Go.Maps

theorem NX.mono {w : World} {p : Nat} {vf : Value} {L : List Fl} {O O' : Nat → Prop} (h : NX w p vf L O) (hO : ∀ k, O k → O' k) (hl : ∀ k, O' k → k < w.heap.size) : NX w p vf L O' :=
  ⟨h.blk, h.row, fun e he => (h.dat e he).keep (fun _ _ _ _ => rfl) hO (fun _ _ hh => hh), h.few, hO p h.oP, fun k hk => hO k (h.oF k hk), hl⟩
theorem msg_empty (w : World) : MsgAt w w.heap.size (.slice none 0 0) (.slice none 0 0) (.slice none 0 0) (.slice none 0 0) [] [] [] [] :=
  ⟨⟨by simp, by simp, none, 0, rfl, fun h => absurd rfl h⟩, ⟨by simp, .inl ⟨rfl, rfl⟩⟩, ⟨⟨by simp, by simp, none, 0, rfl, fun h => absurd rfl h⟩, ⟨by simp, fun x hx => (by cases hx), none, 0, rfl, fun h => absurd rfl h⟩, fun x hx => (by cases hx)⟩⟩

set_option maxHeartbeats 6400000 in
set_option maxRecDepth 100000 in
theorem nsend_any {w : World} {p : Nat} {vf : Value} {L : List Fl} {O : Nat → Prop} (to' : Int) (sq : Nat) (d : List UInt8) (hsq : sq < 18446744073709551616) (hd : eMsg (1, 1, to', 0, 0, 0, [], 0, 0, false, 0, [], false, 0, sq, ⟨#[]⟩, (0, 0, [], [], 0, 0), 0) = some d) (h : NX w p vf L O) (hfew : L.length < 4096) :
    Calls Tryz.prog 6 #[.pointer (some ⟨p, 0, none⟩), .agg #[.int .i64 1, .int .i64 1, .int .i64 to', .int .u64 0, .int .u64 0, .int .u64 0, .slice none 0 0, .int .u64 0, .int .u64 0, .bool false, .int .i64 0, .slice none 0 0, .bool false, .int .u64 0, .int .u64 (sq : Int), .string ⟨#[]⟩, .int .u64 0, .int .i64 0, .slice none 0 0, .slice none 0 0, .int .i64 0, .int .u64 0, .int .i64 0]] w fun e w' => ∃ vf' O' v, e = .returned .nilIface ∧ NX w' p vf' (L ++ [⟨1, to', v, d⟩]) O' ∧ FrO O w w' ∧ ∀ k, O' k → O k ∨ w.heap.size ≤ k := by
  obtain ⟨W, hW⟩ : ∃ W, w.alloc (.cells #[.int .i64 1, .int .i64 1, .int .i64 to', .int .u64 0, .int .u64 0, .int .u64 0, .slice none 0 0, .int .u64 0, .int .u64 0, .bool false, .int .i64 0, .slice none 0 0, .bool false, .int .u64 0, .int .u64 (sq : Int), .string ⟨#[]⟩, .int .u64 0, .int .i64 0, .slice none 0 0, .slice none 0 0, .int .i64 0, .int .u64 0, .int .i64 0] 43) = W := ⟨_, rfl⟩
  have hbW : Below w.heap.size w W := by rw [← hW]; exact (Below.refl _ _).alloc (Nat.le_refl _) _
  have hWz : W.heap.size = w.heap.size + 1 := by rw [← hW]; simp
  have hWn : W.heap[w.heap.size]? = some (.cells #[.int .i64 1, .int .i64 1, .int .i64 to', .int .u64 0, .int .u64 0, .int .u64 0, .slice none 0 0, .int .u64 0, .int .u64 0, .bool false, .int .i64 0, .slice none 0 0, .bool false, .int .u64 0, .int .u64 (sq : Int), .string ⟨#[]⟩, .int .u64 0, .int .i64 0, .slice none 0 0, .slice none 0 0, .int .i64 0, .int .u64 0, .int .i64 0] 43 (0, 0)) := by rw [← hW]; exact (MapKept.heap_alloc w _).1
  have HR : Hid (W.rangeAt w.heap.size 0 [.int .i64 1, .int .i64 1, .int .i64 to', .int .u64 0, .int .u64 0, .int .u64 0, .slice none 0 0, .int .u64 0, .int .u64 0, .bool false, .int .i64 0, .slice none 0 0, .bool false, .int .u64 0, .int .u64 (sq : Int), .string ⟨#[]⟩, .int .u64 0, .int .i64 0, .slice none 0 0, .slice none 0 0, .int .i64 0, .int .u64 0, .int .i64 0]) := fun i v hi => by
    rw [Nat.zero_add, (cellB hWn i).1, ← hi, ← Array.getElem?_toList]
  have hpl := h.lt p h.oP
  have HP : Hid (Calls Tryz.prog 15 #[.agg #[.int .i64 1, .int .i64 1, .int .i64 to', .int .u64 0, .int .u64 0, .int .u64 0, .slice none 0 0, .int .u64 0, .int .u64 0, .bool false, .int .i64 0, .slice none 0 0, .bool false, .int .u64 0, .int .u64 (sq : Int), .string ⟨#[]⟩, .int .u64 0, .int .i64 0, .slice none 0 0, .slice none 0 0, .int .i64 0, .int .u64 0, .int .i64 0]] W fun e w2 => ∃ a k, e = .returned (.tuple #[.slice a d.length k, .nilIface]) ∧ w2.cell? ⟨w.heap.size, 1, none⟩ = some (.int .i64 1) ∧ w2.cell? ⟨w.heap.size, 2, none⟩ = some (.int .i64 to') ∧
      Hid (Calls Tryz.prog 17 #[.pointer (some ⟨p, 0, none⟩), .agg #[.int .i64 1, .int .i64 to', .slice a d.length k]] w2 fun e w3 => e = .returned .nilIface ∧ Hid (∃ vf' O' v, NX w3 p vf' (L ++ [⟨1, to', v, d⟩]) O' ∧ FrO O w w3 ∧ ∀ k, O' k → O k ∨ w.heap.size ≤ k))) := by
    have hput := putMsg_any 1 1 to' 0 0 0 (.slice none 0 0) 0 0 false 0 (.slice none 0 0) false 0 sq ⟨#[]⟩ 0 0 (.slice none 0 0) (.slice none 0 0) 0 0 0 [] [] [] [] W (by decide) (by decide) (by decide) (by decide) (by decide) (by decide) hsq (by decide) (by decide) (by show (0 : Nat) ≤ maxLen; exact Nat.zero_le _) (msg_empty W)
    refine hput.mono ?_
    rw [List.map_nil, hd]
    rintro e w2 ⟨a, k, rfl, hrow, hb⟩
    have hB : Below w.heap.size w w2 := hbW.trans (hb.mono hbW.size)
    have hn2 : w2.heap[w.heap.size]? = some (.cells #[.int .i64 1, .int .i64 1, .int .i64 to', .int .u64 0, .int .u64 0, .int .u64 0, .slice none 0 0, .int .u64 0, .int .u64 0, .bool false, .int .i64 0, .slice none 0 0, .bool false, .int .u64 0, .int .u64 (sq : Int), .string ⟨#[]⟩, .int .u64 0, .int .i64 0, .slice none 0 0, .slice none 0 0, .int .i64 0, .int .u64 0, .int .i64 0] 43 (0, 0)) := (hb.block _ (by omega)).trans hWn
    refine ⟨a, k, rfl, by rw [(cellB hn2 1).1]; rfl, by rw [(cellB hn2 2).1]; rfl, ?_⟩
    have hO2 : ∀ q, (O q ∨ (w.heap.size ≤ q ∧ q < w2.heap.size)) → q < w2.heap.size := fun q hq => by
      rcases hq with hq | hq
      · exact Nat.lt_of_lt_of_le (h.lt q hq) hB.size
      · exact hq.2
    have h2 := (h.below hB).mono (O' := fun q => O q ∨ (w.heap.size ≤ q ∧ q < w2.heap.size)) (fun q hq => .inl hq) hO2
    have hfb : FB w2 (fun q => O q ∨ (w.heap.size ≤ q ∧ q < w2.heap.size)) p vf (.slice a d.length k) d := by
      rcases hrow.2 with ⟨e1, e2⟩ | ⟨g, cap, cur, e1, hg, hc, r2, r3, r4, r5⟩
      · exact .inl ⟨e1, List.eq_nil_of_length_eq_zero e2⟩
      · have hgl := (Array.getElem?_eq_some_iff.1 hc).1
        refine .inr ⟨g, 0, cap, .inr ⟨by omega, hgl⟩, by omega, fun hh => ?_, r2, r3, e1, fun i hi => ?_⟩
        · have := h.lt g (h.oF g hh); omega
        · rw [Nat.zero_add, (cellB hc i).1, ← Array.getElem?_toList]
          have e6 : cur.toList[i]? = (cur.toList.take (d.length * 1))[i]? := by rw [List.getElem?_take, if_pos (by omega)]
          rw [e6, r5]
          simp [byteCells, hi]
    refine (nadd_any 1 to' (.slice a d.length k) d h2 hfb hfew).mono ?_
    rintro e w3 ⟨vf', O', rfl, hx, hf, hO⟩
    refine ⟨rfl, vf', O', _, hx, (FrO.of_below hB).trans hf (fun q hq hh => ?_), fun q hq => ?_⟩
    · rcases hh with hh | hh
      · exact hh
      · omega
    · rcases hO q hq with (h1 | h1) | h1
      · exact .inl h1
      · exact .inr h1.1
      · exact .inr (Nat.le_trans hB.size h1)
  clear h hd hbW hWn hWz hfew
  go_enter Tryz.func6, Tryz.ntmps6
  go_upto_region 1 with fail
  refine wp_region_list ?_
  refine wpList_load_mid rfl 43 (.tmp 3) rfl w.heap.size 0 rfl [.int .i64 1, .int .i64 1, .int .i64 to', .int .u64 0, .int .u64 0, .int .u64 0, .slice none 0 0, .int .u64 0, .int .u64 0, .bool false, .int .i64 0, .slice none 0 0, .bool false, .int .u64 0, .int .u64 (sq : Int), .string ⟨#[]⟩, .int .u64 0, .int .i64 0, .slice none 0 0, .slice none 0 0, .int .i64 0, .int .u64 0, .int .i64 0] _ (unhide HR) Tryz.underlying43 rfl Tryz.sizeM ?_
  go_wp2_with (first
    | (go_at_call 15; refine (unhide HP).mono ?_; rintro e w2 ⟨a, k, rfl, c1, c2, PA⟩; clear HP)
    | (go_at_call 17; refine (unhide PA).mono ?_; rintro e w3 ⟨rfl, H3⟩; clear PA))
  go_ret
  obtain ⟨vf', O', v, hx, hf, hO⟩ := unhide H3
  exact ⟨vf', O', v, rfl, hx, hf, hO⟩
end Go.Proofs.YtahpfhnekmilmaaGreatDoor
