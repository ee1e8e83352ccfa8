/- A net: Drop of a message that is in flight. -/
import Derived.Test.YtahpfhnekmilmaaGreatDoorJNCopyNSend
import Derived.Test.YtahpfhnekmilmaaGreatDoorJNMsgNBigNMkHandNDel
namespace Go.Proofs.YtahpfhnekmilmaaGreatDoor
open Go.RowKit Go.Lib Go.Maps

theorem setCells_blk {b : Nat} {T : TypeId} : ∀ (vs : List Value) (o : Nat) (w : World) (cur : Array Value), w.heap[b]? = some (.cells cur T (0, 0)) → o + vs.length ≤ cur.size →
    ∃ cur' : Array Value, (w.setCells b o vs).heap[b]? = some (.cells cur' T (0, 0)) ∧ cur'.size = cur.size ∧ (∀ j, o ≤ j → j < o + vs.length → cur'[j]? = vs[j - o]?) ∧ ∀ j, (j < o ∨ o + vs.length ≤ j) → cur'[j]? = cur[j]?
  | [], o, w, cur, h, _ => ⟨cur, h, rfl, fun j h1 h2 => by simp at h2; omega, fun _ _ => rfl⟩
  | v :: vs, o, w, cur, h, hl => by
    simp only [List.length_cons] at hl
    obtain ⟨cur', h1, h2, h3, h4⟩ := setCells_blk vs (o + 1) (w.setCell ⟨b, o, none⟩ v) (cur.setIfInBounds o v) (heap_setCell_at h o v) (by simp; omega)
    refine ⟨cur', h1, by simpa using h2, fun j ha hb => ?_, fun j hj => ?_⟩
    · simp only [List.length_cons] at hb
      rcases Nat.lt_or_ge o j with hlt | hge
      · rw [h3 j (by omega) (by omega)]
        have e : j - o = (j - (o + 1)) + 1 := by omega
        rw [e, List.getElem?_cons_succ]
      · obtain rfl : j = o := by omega
        rw [h4 j (.inl (by omega))]
        simp [show j < cur.size by omega]
    · simp only [List.length_cons] at hj
      rw [h4 j (by omega), Array.getElem?_setIfInBounds, if_neg (by omega)]
theorem setCells_other {b : Nat} : ∀ (vs : List Value) (o : Nat) (w : World) (k : Nat), k ≠ b → (w.setCells b o vs).heap[k]? = w.heap[k]?
  | [], _, _, _, _ => rfl
  | v :: vs, o, w, k, h => by rw [World.setCells, setCells_other vs (o + 1) _ k h, heap_setCell_ne o v h]
theorem setCells_size {b : Nat} : ∀ (vs : List Value) (o : Nat) (w : World), (w.setCells b o vs).heap.size = w.heap.size
  | [], _, _ => rfl
  | v :: vs, o, w => by rw [World.setCells, setCells_size vs (o + 1)]; simp
theorem setCells_env {b : Nat} : ∀ (vs : List Value) (o : Nat) (w : World), Env w (w.setCells b o vs)
  | [], _, _ => ⟨rfl, rfl, rfl⟩
  | v :: vs, o, w => by
    rw [World.setCells]
    exact Env.trans ⟨rfl, rfl, rfl⟩ (setCells_env vs (o + 1) (w.setCell ⟨b, o, none⟩ v))
theorem fCells_one : ∀ (L : List Fl) (u : Value), u ∈ fCells L → (∀ e ∈ L, e.v.oneCell' = true) → u.oneCell' = true
  | [], u, h, _ => by cases h
  | e :: r, u, h, hv => by
    simp only [fCells, List.mem_cons] at h
    rcases h with rfl | rfl | rfl | h
    · rfl
    · rfl
    · exact hv e (by simp)
    · exact fCells_one r u h (fun x hx => hv x (by simp [hx]))
theorem fCells_take : ∀ (L : List Fl) (k : Nat), fCells (L.take k) = (fCells L).take (k * 3)
  | [], k => by simp [fCells]
  | e :: r, 0 => rfl
  | e :: r, k + 1 => by
    have e1 : (k + 1) * 3 = k * 3 + 1 + 1 + 1 := by omega
    rw [List.take_succ_cons, fCells, fCells_take r k, e1]; rfl
theorem fCells_drop : ∀ (L : List Fl) (k : Nat), fCells (L.drop k) = (fCells L).drop (k * 3)
  | [], k => by simp [fCells]
  | e :: r, 0 => rfl
  | e :: r, k + 1 => by
    have e1 : (k + 1) * 3 = k * 3 + 1 + 1 + 1 := by omega
    rw [List.drop_succ_cons, fCells_drop r k, e1]; rfl

/-- slices.Delete of the flight at place i. -/
theorem ndel_row {w : World} {p i : Nat} {vf : Value} {L : List Fl} {O : Nat → Prop} (h : NX w p vf L O) (hi : i < L.length) :
    Calls Tryz.prog 21 #[vf, .int .i64 (i : Int), .int .i64 ((i : Int) + 1)] w fun e w' => ∃ g cap cur', vf = .slice (some ⟨g, 0, none⟩) L.length cap ∧ e = .returned (.slice (some ⟨g, 0, none⟩) (L.length - 1) cap) ∧ w'.heap[g]? = some (.cells cur' 60 (0, 0)) ∧ L.length ≤ cap ∧ cap ≤ maxLen ∧ cur'.size = cap * 3 ∧
      cur'.toList.take ((L.length - 1) * 3) = fCells (L.eraseIdx i) ∧ (∀ k, k ≠ g → w'.heap[k]? = w.heap[k]?) ∧ w'.heap.size = w.heap.size ∧ Env w w' := by
  obtain ⟨r1, ⟨_, r2⟩ | ⟨g, cap, cur, rfl, _, hc, r2, r3, r4, r5⟩⟩ := h.row
  · omega
  obtain ⟨i0, hi0, hs0⟩ := info_flight
  have hone : ∀ e ∈ L, e.v.oneCell' = true := fun e he => by obtain ⟨a, k, hv⟩ := (h.dat e he).slice; rw [hv]; rfl
  have hlen := fCells_length L
  -- what is moved
  obtain ⟨news, hnews⟩ : ∃ news, news = fCells (L.drop (i + 1)) := ⟨_, rfl⟩
  have hnl : news.length = (L.length - (i + 1)) * 3 := by rw [hnews, fCells_length, List.length_drop]
  have hcell : ∀ j, j < L.length * 3 → cur[j]? = (fCells L)[j]? := fun j hj => by rw [← r5, List.getElem?_take, if_pos hj]; simp
  have hc' : w.drew.heap[g]? = some (.cells cur 60 (0, 0)) := hc
  obtain ⟨ad, had⟩ : ∃ ad : Addr, ad = if cap = i + 1 then (⟨g, 0, none⟩ : Addr) else ⟨g, (i + 1) * 3, none⟩ := ⟨_, rfl⟩
  have hsrc : ∀ j u, news[j]? = some u → w.drew.cell? (ad.add j) = some u := fun j u hj => by
    have hjl : j < news.length := (List.getElem?_eq_some_iff.1 hj).1
    rw [had, if_neg (by omega), Addr.add_mid, (cellB hc' _).1, hcell _ (by omega)]
    rw [hnews, fCells_drop, List.getElem?_drop] at hj
    exact hj
  have happ : ∀ ty, (Builtin.append_ #[52, 52] ty #[.slice (some ⟨g, 0, none⟩) i cap, .slice (some ad) (L.length - (i + 1)) (cap - (i + 1))]).run Tryz.prog w.drew = .ok (.slice (some ⟨g, 0, none⟩) (L.length - 1) cap) (w.drew.setCells g (i * 3) news) := fun ty => by
    have := run_append_room_cells (P := Tryz.prog) w.drew 52 ty 60 i0 Tryz.underlying52 hi0 g 0 i cap ad (L.length - (i + 1)) (cap - (i + 1)) news (by rw [hs0]; exact hnl) hsrc (fun u hu => by rw [hnews] at hu; exact fCells_one _ u hu (fun e he => hone e (List.mem_of_mem_drop he))) (by omega)
      (fun j hj => by rw [hs0, (cellB hc' _).1, Array.getElem?_eq_getElem (by omega)]; rfl) (fun j hj => (cellB hc' _).2)
    rw [hs0, Nat.zero_add] at this
    rw [this]
    have e1 : i + (L.length - (i + 1)) = L.length - 1 := by omega
    rw [e1]
  obtain ⟨cur1, k1, k2, k3, k4⟩ := setCells_blk news (i * 3) w.drew cur hc' (by omega)
  have hclr : ∀ ty, (Builtin.clear_ #[52] ty #[.slice (some ⟨g, (L.length - 1) * 3, none⟩) (L.length - (L.length - 1)) (cap - (L.length - 1))]).run Tryz.prog (w.drew.setCells g (i * 3) news) = .ok (.tuple #[]) ((w.drew.setCells g (i * 3) news).setCells g ((L.length - 1) * 3) [.int .i64 0, .int .i64 0, .slice none 0 0]) := fun ty => by
    have e1 : L.length - (L.length - 1) = 1 := by omega
    rw [e1]
    exact run_clear_one _ ty g ((L.length - 1) * 3) _ (fun j hj => by rw [(cellB k1 _).1, Array.getElem?_eq_getElem (by omega)]; rfl) (fun j hj => (cellB k1 _).2)
  obtain ⟨cur2, m1, m2, m3, m4⟩ := setCells_blk [.int .i64 0, .int .i64 0, .slice none 0 0] ((L.length - 1) * 3) (w.drew.setCells g (i * 3) news) cur1 k1 (by simp; omega)
  refine (ndel_any g i L.length cap w _ _ hi r2 (some ad) (by rw [had]; split <;> rfl) happ hclr).mono ?_
  rintro e w' ⟨rfl, rfl⟩
  refine ⟨g, cap, cur2, rfl, rfl, m1, r2, r3, by omega, ?_, fun k hk => by rw [setCells_other _ _ _ k hk, setCells_other _ _ _ k hk]; rfl, by rw [setCells_size, setCells_size]; rfl, Env.trans (Env.trans ⟨rfl, rfl, rfl⟩ (setCells_env _ _ w.drew)) (setCells_env _ _ _)⟩
  have hE : L.eraseIdx i = L.take i ++ L.drop (i + 1) := List.eraseIdx_eq_take_drop_succ ..
  rw [hE, fCells_append, ← hnews, fCells_take]
  apply List.ext_getElem?
  intro j
  rw [List.getElem?_take]
  have hlt : ((fCells L).take (i * 3)).length = i * 3 := by rw [List.length_take]; omega
  by_cases hj : j < (L.length - 1) * 3
  · rw [if_pos hj, Array.getElem?_toList, m4 j (.inl hj)]
    rcases Nat.lt_or_ge j (i * 3) with h1 | h1
    · rw [k4 j (.inl h1), hcell j (by omega), List.getElem?_append_left (by omega), List.getElem?_take, if_pos h1]
    · rw [k3 j h1 (by omega), List.getElem?_append_right (by omega), hlt]
  · rw [if_neg hj, List.getElem?_eq_none]
    rw [List.length_append, hlt, hnl]
    omega

/-- What Drop leaves. -/
theorem ndrop_mem {w w3 w4 : World} {p g i cap : Nat} {L : List Fl} {O : Nat → Prop} {cur' : Array Value} (h : NX w p (.slice (some ⟨g, 0, none⟩) L.length cap) L O) (hi : i < L.length)
    (hg : w3.heap[g]? = some (.cells cur' 60 (0, 0))) (hn : L.length ≤ cap) (hm : cap ≤ maxLen) (hs : cur'.size = cap * 3) (ht : cur'.toList.take ((L.length - 1) * 3) = fCells (L.eraseIdx i)) (ho : ∀ k, k ≠ g → w3.heap[k]? = w.heap[k]?) (hz : w3.heap.size = w.heap.size) (he : Env w w3)
    (hw4 : w4 = w3.setCell ⟨p, 0, none⟩ (.slice (some ⟨g, 0, none⟩) (L.length - 1) cap)) : NX w4 p (.slice (some ⟨g, 0, none⟩) (L.length - 1) cap) (L.eraseIdx i) O ∧ FrO O w w4 := by
  subst hw4
  have hOg : O g := h.oF g rfl
  have hgp : p ≠ g := fun e => by
    subst e
    rcases h.row.2 with ⟨e1, _⟩ | ⟨g', cap', cur, e1, _, hc, _⟩
    · cases e1
    · injection e1 with e1 _ _
      injection e1 with e1
      injection e1 with e1 _ _
      subst e1
      have := h.blk
      rw [hc] at this; injection this with this; injection this with _ h6; exact absurd h6 (by decide)
  have hp3 : w3.heap[p]? = some (.cells #[.slice (some ⟨g, 0, none⟩) L.length cap] 54 (0, 0)) := (ho p hgp).trans h.blk
  have h4 : ∀ k, k ≠ p → (w3.setCell ⟨p, 0, none⟩ (.slice (some ⟨g, 0, none⟩) (L.length - 1) cap)).heap[k]? = w3.heap[k]? := fun k hk => heap_setCell_ne 0 _ hk
  have hel : (L.eraseIdx i).length = L.length - 1 := by rw [List.length_eraseIdx, if_pos hi]
  refine ⟨⟨heap_setCell_at hp3 0 _, ?_, fun e hE => ?_, by rw [hel]; have := h.few; omega, h.oP, fun k hk => ?_, fun k hk => ?_⟩, ⟨by simp; omega, fun k hk hk' => ?_, he.trans ⟨rfl, rfl, rfl⟩⟩⟩
  · rw [hel]
    refine ⟨by rw [fCells_length, hel], .inr ⟨g, cap, cur', rfl, Nat.zero_le _, (h4 g (fun e => hgp e.symm)).trans hg, by omega, hm, hs, ht⟩⟩
  · exact (h.dat e (List.mem_of_mem_eraseIdx hE)).keep (fun k _ hkp hkf => (h4 k hkp).trans (ho k (fun e => hkf (by rw [e]; rfl)))) (fun _ hk => hk) (fun k _ hkf => by intro hh; exact hkf hh)
  · exact h.oF k hk
  · have := h.lt k hk
    simp; omega
  · exact (h4 k (fun e => hk' (e ▸ h.oP))).trans (ho k (fun e => hk' (e ▸ hOg)))

set_option maxHeartbeats 3200000 in
set_option maxRecDepth 100000 in
theorem ndrop_any {w : World} {p i : Nat} {vf : Value} {L : List Fl} {O : Nat → Prop} (e : Fl) (h : NX w p vf L O) (hi : L[i]? = some e) :
    Calls Tryz.prog 10 #[.pointer (some ⟨p, 0, none⟩), .int .i64 (i : Int)] w fun ev w' => ∃ vf', ev = .returned .nilIface ∧ NX w' p vf' (L.eraseIdx i) O ∧ FrO O w w' := by
  obtain ⟨ea, ek, hev⟩ := (h.dat e (List.mem_of_getElem? hi)).slice
  have hil := (List.getElem?_eq_some_iff.1 hi).1
  have hfew := h.few
  have HA := hide (nat_good i e h hi)
  rw [hev] at HA
  have HD : Hid (∀ w1, Below w.heap.size w w1 → (w1.alloc (.cells #[.int .i64 e.fr, .int .i64 e.to', .slice ea e.d.length ek] 60)).cell? ⟨p, 0, none⟩ = some vf ∧ Hid (Calls Tryz.prog 21 #[vf, .int .i64 (i : Int), .int .i64 ((i : Int) + 1)] (w1.alloc (.cells #[.int .i64 e.fr, .int .i64 e.to', .slice ea e.d.length ek] 60)) fun ev w3 => ∃ g cap, ev = .returned (.slice (some ⟨g, 0, none⟩) (L.length - 1) cap) ∧ w3.cell? ⟨p, 0, none⟩ = some vf ∧ w3.frozen? ⟨p, 0, none⟩ = false ∧
      Hid (NX (w3.setCell ⟨p, 0, none⟩ (.slice (some ⟨g, 0, none⟩) (L.length - 1) cap)) p (.slice (some ⟨g, 0, none⟩) (L.length - 1) cap) (L.eraseIdx i) O ∧ FrO O w (w3.setCell ⟨p, 0, none⟩ (.slice (some ⟨g, 0, none⟩) (L.length - 1) cap))))) := by
    intro w1 hb1
    have hb2 : Below w.heap.size w (w1.alloc (.cells #[.int .i64 e.fr, .int .i64 e.to', .slice ea e.d.length ek] 60)) := hb1.alloc (by have := hb1.size; omega) _
    have h2 := h.below hb2
    generalize w1.alloc (.cells #[.int .i64 e.fr, .int .i64 e.to', .slice ea e.d.length ek] 60) = W2 at hb2 h2 ⊢
    refine ⟨h2.cell, (ndel_row h2 hil).mono ?_⟩
    rintro ev w3 ⟨g, cap, cur', rfl, rfl, d1, d2, d3, d4, d5, d6, d7, d8⟩
    have hgp : p ≠ g := fun e => by
      have := h2.blk
      rcases h2.row.2 with ⟨e1, _⟩ | ⟨g', cap', cur, e1, _, hc, _⟩
      · cases e1
      · injection e1 with e1 _ _
        injection e1 with e1
        injection e1 with e1 _ _
        subst e1
        rw [e, hc] at this; injection this with this; injection this with _ h6; exact absurd h6 (by decide)
    have hp3 := (d6 p hgp).trans h2.blk
    obtain ⟨f1, f2⟩ := ndrop_mem h2 hil d1 d2 d3 d4 d5 d6 d7 d8 rfl
    exact ⟨g, cap, rfl, by rw [(cellB hp3 0).1]; rfl, (cellB hp3 0).2, f1, (FrO.of_below hb2).trans f2 (fun _ _ hh => hh)⟩
  obtain ⟨fa, fc, rfl, _, _⟩ := h.files
  have hi0 : (0 : Int) ≤ (i : Int) := by omega
  have hi1 : (i : Int) < 4096 := by omega
  clear h hi hev
  go_enter Tryz.func10, Tryz.ntmps10
  go_wp2_with (first
    | (go_at_call 20; refine (unhide HA).mono ?_; rintro e0 w1 ⟨rfl, hb1⟩; obtain ⟨c1, P1⟩ := unhide HD w1 hb1; clear hb1)
    | (go_at_call 21; refine (unhide P1).mono ?_; rintro e0 w3 ⟨g, cap, rfl, c3, f3, F3⟩; clear P1))
  go_ret
  obtain ⟨hx, hf⟩ := unhide F3
  exact ⟨_, rfl, hx, hf⟩
end Go.Proofs.YtahpfhnekmilmaaGreatDoor
