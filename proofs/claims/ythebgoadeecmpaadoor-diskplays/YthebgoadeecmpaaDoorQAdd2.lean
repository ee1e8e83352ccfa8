/- The document's disk: add, walked. -/
import Derived.Test.YthebgoadeecmpaaDoorQAddM
namespace Go.Proofs.YthebgoadeecmpaaDoor
open Go.RowKit Go.Lib Go.Maps Go.WideMaps

set_option maxHeartbeats 6400000 in
set_option maxRecDepth 100000 in
theorem add_any {w : World} {r : Nat} {R : RSt} {vf : Value} {G : List Ent} {Q : Nat → Prop} (n : List UInt8) (v : Value) (su : Nat) (dt : List UInt8) (h : RX w r R vf G Q) (hv : RBq w Q r vf v dt) (hsu : su ≤ dt.length ∧ dt.length ≤ 1048576) (hn : n.length ≤ 40) (hfew : G.length < 64) :
    Calls Tryd.prog 41 #[.pointer (some ⟨r, 0, none⟩), .agg #[.string ⟨n.toArray⟩, v, .int .i64 (su : Int)]] w fun e w' => ∃ vf' Q', e = .returned (.int .i64 (lessN n G : Int)) ∧ RX w' r R vf' (G.take (lessN n G) ++ ⟨n, 0, v, dt, su⟩ :: G.drop (lessN n G)) Q' ∧ FrO Q w w' ∧ (∀ q, Q' q → Q q ∨ w.heap.size ≤ q) := by
  obtain ⟨va, vk, rfl⟩ := hv.slice
  obtain ⟨a, cap, rfl, hcap, hfl⟩ := h.files
  obtain ⟨i0, hi, hz0, hz1, hz2⟩ := info_parts Tryd.infoF
  have c0 := h.cells.1
  have HF := hide hfl
  have hG : (G.length : Int) < 64 := by omega
  have hrlt : r < w.heap.size := (Array.getElem?_eq_some_iff.1 h.blk).1
  obtain ⟨w0, hW0⟩ : ∃ w0, w.alloc (.cells #[.string ⟨n.toArray⟩, .slice va dt.length vk, .int .i64 (su : Int)] 61) = w0 := ⟨_, rfl⟩
  have hw0 : Hid (∀ b o, b < w.heap.size → w0.cell? ⟨b, o, none⟩ = w.cell? ⟨b, o, none⟩) := fun b o hb => by
    rw [← hW0]; exact cell_same (Below.heap_alloc _ _ b hb) o
  have c00 : w0.cell? ⟨r, 0, none⟩ = some (.slice a G.length cap) := (unhide hw0 r 0 hrlt).trans c0
  have cf : w0.cell? ⟨w.heap.size, 0, none⟩ = some (.string ⟨n.toArray⟩) := by rw [← hW0]; simp
  have HROW : Hid (∀ M, ((w0.drewN M).alloc zObj).ownsRow 0 61 3 (.slice a G.length cap) G.length (gCells G)) := by
    intro M
    obtain ⟨h1, h2 | ⟨g, cp, cur, e1, hb, hc, rr⟩⟩ := h.row
    · exact ⟨h1, .inl h2⟩
    · have hgl := (Array.getElem?_eq_some_iff.1 hc).1
      refine ⟨h1, .inr ⟨g, cp, cur, e1, hb, ?_, rr⟩⟩
      rw [Below.heap_alloc _ _ g (by rw [← hW0]; simp; omega), ← hW0]
      exact (Below.heap_alloc _ _ g hgl).trans hc
  have HNEW : Hid (∀ M j u, zCells[j]? = some u → ((w0.drewN M).alloc zObj).cell? ((⟨w0.heap.size, 0, none⟩ : Addr).add j) = some u) := by
    intro M j u hj
    have hz : ((w0.drewN M).alloc zObj).heap[w0.heap.size]? = some (.cells #[.string ⟨#[]⟩, .slice none 0 0, .int .i64 0] 61 (0, 0)) := (MapKept.heap_alloc (w0.drewN M) zObj).1
    rw [Go.WideShapes.add_plain, Nat.zero_add, (cellB hz j).1, ← hj, ← Array.getElem?_toList]
    rfl
  have HMEM : Hid (∀ k M v3 w3, k ≤ G.length → w3.ownsRow 0 61 3 v3 (G.length + 1) (gCells G ++ zCells) → ((w0.drewN M).alloc zObj).grownBy w3 (Value.slice a G.length cap).ownBlock → (v3.ownBlock = (Value.slice a G.length cap).ownBlock ∨ v3.ownBlock = some ((w0.drewN M).alloc zObj).heap.size) → _) := fun k M v3 w3 hk hrow hg hloc => add_mem (k := k) (M := M) (n := n) (su := su) h hv hsu hn hfew hk hrow (by rw [hW0]; exact hg) (by rw [hW0]; exact hloc)
  have HENV : Hid (∀ M w3, ((w0.drewN M).alloc zObj).grownBy w3 (Value.slice a G.length cap).ownBlock → Env w w3) := fun M w3 hg => by
    have h1 := hg.os
    have h2 := hg.tape
    have h3 := hg.output
    rw [← hW0] at h1 h2 h3
    exact ⟨h1, h2, h3⟩
  have HONE : Hid (∀ k, ∀ u ∈ gCells (G.drop k), u.oneCell' = true) := by
    have : ∀ L : List Ent, (∀ e ∈ L, e ∈ G) → ∀ u ∈ gCells L, u.oneCell' = true := by
      intro L
      induction L with
      | nil => intro _ u hu; cases hu
      | cons x r ih =>
        intro hL u hu
        simp only [gCells, List.mem_cons] at hu
        rcases hu with rfl | rfl | rfl | hu
        · rfl
        · obtain ⟨a', k', e'⟩ := (h.dat x (hL x (by simp))).slice
          rw [e']; rfl
        · rfl
        · exact ih (fun e he => hL e (by simp [he])) u hu
    exact fun k => this _ (fun e he => List.mem_of_mem_drop he)
  have hT52 : (Tryd.prog.info? 61).map (·.size) = some 3 := by rw [hi]; simp [hz1]
  clear hfl c0
  have H := hide h
  clear h
  go_enter Tryd.func41, Tryd.ntmps41
  go_wp2
  try rw [hW0]
  go_loopw [5] (fun i wr => ∃ k m : Nat, k ≤ G.length ∧ i = .int .i64 k ∧ wr = w0.drewN m ∧ Hid (∀ e ∈ G.take k, bytesBefore e.name n = true)) (fun i _ => G.length - (intOf i).toNat)
  case atStart => exact ⟨0, 0, by omega, rfl, rfl, fun e he => by simp at he⟩
  case round =>
    obtain ⟨k, m, hk, rfl, rfl, hall⟩ := hrel
    have hkA : (k : Int) ≤ (G.length : Int) := by omega
    have hkB : (k : Int) ≤ (G.length : Int) + 1 := by omega
    have hkC : (k : Int) + 1 ≤ (G.length : Int) + 1 := by omega
    have hkE : (k : Int) < (G.length : Int) + 1 := by omega
    have hkD : (0 : Int) ≤ (k : Int) + 1 := by omega
    have hend : (k < G.length ∧ ∃ e, G[k]? = some e ∧ bytesBefore e.name n = true) ∨ Hid (lessN n G = k) ∧ (k < G.length ∧ (∃ e, G[k]? = some e ∧ bytesBefore e.name n = false) ∨ ¬ k < G.length) := by
      by_cases hlt : k < G.length
      · obtain ⟨e, hek⟩ : ∃ e, G[k]? = some e := ⟨G[k], List.getElem?_eq_getElem hlt⟩
        cases hb : bytesBefore e.name n with
        | true => exact .inl ⟨hlt, e, hek, hb⟩
        | false => exact .inr ⟨lessN_at (unhide hall) hk (fun x hx => by rw [hek] at hx; cases hx; exact hb), .inl ⟨hlt, e, hek, hb⟩⟩
      · exact .inr ⟨lessN_at (unhide hall) hk (fun x hx => absurd (List.getElem?_eq_some_iff.1 hx).1 hlt), .inr hlt⟩
    rcases hend with ⟨hlt, e, hek, hb⟩ | ⟨hless, hend⟩
    · obtain ⟨g, rfl, _, hgl, cn, _, _, _⟩ := unhide HF k e hek
      have cn' := (unhide hw0 g (k * 3) hgl).trans cn
      have hlt' : (k : Int) < (G.length : Int) := by omega
      have hls : Op.bytesLess e.name n = true := by rw [less_before]; exact hb
      have HALL : Hid (∀ x ∈ G.take (k + 1), bytesBefore x.name n = true) := by
        intro x hx
        rw [List.take_add_one, hek] at hx
        rcases List.mem_append.1 hx with hx | hx
        · exact unhide hall x hx
        · simp at hx; subst hx; exact hb
      clear HF hw0 hall HROW
      go_wp2
      go_region
      all_goals go_wp2
      all_goals go_roundw
      case rel => exact ⟨k + 1, m + 1, by omega, by go_num, rfl, unhide HALL⟩
      case measure => simp [intOf]; omega
    · rcases hend with ⟨hlt, e, hek, hb⟩ | hlt
      · obtain ⟨g, rfl, _, hgl, cn, _, _, _⟩ := unhide HF k e hek
        have cn' := (unhide hw0 g (k * 3) hgl).trans cn
        have hlt' : (k : Int) < (G.length : Int) := by omega
        have hls : Op.bytesLess e.name n = false := by rw [less_before]; exact hb
        clear HF hw0 hall
        go_wp2
        go_region
        go_wp2_with (first
          | (at_builtin; refine wpList_append_own_at _ rfl (.tmp 32) (.tmp 34) 52 rfl 0 61 i0 _ 3 48 Tryd.underlying52 hi hz0 hz1 hz2 rfl (by decide) _ G.length (gCells G) rfl (unhide HROW _) ⟨w0.heap.size, 0, none⟩ 1 1 zCells rfl rfl (unhide HNEW _) (by intro u hu; simp [zCells] at hu; rcases hu with rfl | rfl | rfl <;> rfl) (by unfold maxLen; omega) (by omega) (Nat.zero_le _) ?_; intro v3 w3 hrow3 hg3 _ hloc3; have E3 := hide (unhide HENV _ _ hg3); obtain ⟨g3, cap3, cur3, rfl, hcap3, hmax3, c3, f3, c4, HG3, HS3, HSRC3, HW3⟩ := unhide HMEM k _ _ _ hk hrow3 hg3 hloc3; clear hrow3 hg3 hloc3; have hcap3' : (G.length : Int) + 1 ≤ (cap3 : Int) := by omega))
        have hcp := run_copy_sized (P := Tryd.prog) ((w3.setCell ⟨r, 0, none⟩ (.slice (some ⟨g3, 0, none⟩) (G.length + 1) cap3)).drew) 52 52 3 61 g3 ((k + 1) * 3) (G.length - k) (cap3 - (k + 1)) ⟨g3, k * 3, none⟩ (G.length + 1 - k) (cap3 - k) cur3 61 (gCells (G.drop k)) 3 Tryd.underlying52 hT52 (unhide HG3) (by rw [gCells_length, List.length_drop]; congr 1; show _ = min _ _; omega) (unhide HSRC3) (by rw [gCells_length, List.length_drop]; have := unhide HS3; omega) (unhide HONE k)
        rw [List.append_assoc] at hcp
        obtain ⟨w5, hw5⟩ : ∃ w5, ((w3.setCell ⟨r, 0, none⟩ (.slice (some ⟨g3, 0, none⟩) (G.length + 1) cap3)).drew).setRow g3 (cur3.toList.take ((k + 1) * 3) ++ (gCells (G.drop k) ++ cur3.toList.drop ((k + 1) * 3 + (gCells (G.drop k)).length))).toArray = w5 := ⟨_, rfl⟩
        rw [hw5] at hcp
        obtain ⟨d0, d1, d2, d3, ⟨u0, u1, u2, x0, x1, x2⟩, z0, FIN⟩ := unhide HW3 w5 (by rw [← hw5]; rfl)
        have E5 : Hid (Env w w5) := by rw [← hw5]; exact unhide E3
        have z00 := z0 (k * 3)
        have z01 := z0 (k * 3 + 1)
        have z02 := z0 (k * 3 + 2)
        clear z0 hw5
        go_region
        all_goals go_wp2
        all_goals go_region
        all_goals go_wp2
        all_goals go_ret
        all_goals
          obtain ⟨hrx, hfr, hq⟩ := unhide FIN (((w5.setCell ⟨g3, k * 3, none⟩ (.string ⟨n.toArray⟩)).setCell ⟨g3, k * 3 + 1, none⟩ (.slice va dt.length vk)).setCell ⟨g3, k * 3 + 2, none⟩ (.int .i64 (su : Int))).drew rfl (unhide E5)
          exact ⟨_, fun q => Q q ∨ q = g3, by rw [unhide hless]; rfl, by rw [unhide hless]; exact hrx, hfr, fun q hq' => hq'.elim .inl (fun e => by subst e; exact hq)⟩
      · have hlt' : ((k : Int) < (G.length : Int)) = False := eq_false (by omega)
        clear HF hw0 hall
        go_wp2
        first | (go_region) | fail
        go_wp2_with (first
          | (at_builtin; refine wpList_append_own_at _ rfl (.tmp 32) (.tmp 34) 52 rfl 0 61 i0 _ 3 48 Tryd.underlying52 hi hz0 hz1 hz2 rfl (by decide) _ G.length (gCells G) rfl (unhide HROW _) ⟨w0.heap.size, 0, none⟩ 1 1 zCells rfl rfl (unhide HNEW _) (by intro u hu; simp [zCells] at hu; rcases hu with rfl | rfl | rfl <;> rfl) (by unfold maxLen; omega) (by omega) (Nat.zero_le _) ?_; intro v3 w3 hrow3 hg3 _ hloc3; have E3 := hide (unhide HENV _ _ hg3); obtain ⟨g3, cap3, cur3, rfl, hcap3, hmax3, c3, f3, c4, HG3, HS3, HSRC3, HW3⟩ := unhide HMEM k _ _ _ hk hrow3 hg3 hloc3; clear hrow3 hg3 hloc3; have hcap3' : (G.length : Int) + 1 ≤ (cap3 : Int) := by omega))
        have hD : gCells (G.drop k) = [] := by rw [List.drop_of_length_le (by omega)]; rfl
        obtain ⟨off', hif, hoff⟩ : ∃ off', (if cap3 = k + 1 then some (⟨g3, 0, none⟩ : Addr) else some ⟨g3, (k + 1) * 3, none⟩) = some ⟨g3, off', none⟩ ∧ off' ≤ cur3.size := by
          have := unhide HS3
          split
          · exact ⟨0, rfl, Nat.zero_le _⟩
          · exact ⟨_, rfl, by omega⟩
        have hcp := run_copy_sized (P := Tryd.prog) ((w3.setCell ⟨r, 0, none⟩ (.slice (some ⟨g3, 0, none⟩) (G.length + 1) cap3)).drew) 52 52 3 61 g3 off' (G.length - k) (cap3 - (k + 1)) ⟨g3, k * 3, none⟩ (G.length + 1 - k) (cap3 - k) cur3 61 [] 3 Tryd.underlying52 hT52 (unhide HG3) (by show 0 = min _ _ * 3; omega) (fun j v hj => by simp at hj) (by simpa using hoff) (fun v hv => by cases hv)
        obtain ⟨w5, hw5⟩ : ∃ w5, ((w3.setCell ⟨r, 0, none⟩ (.slice (some ⟨g3, 0, none⟩) (G.length + 1) cap3)).drew).setRow g3 (cur3.toList.take off' ++ [] ++ cur3.toList.drop (off' + ([] : List Value).length)).toArray = w5 := ⟨_, rfl⟩
        rw [hw5] at hcp
        have hX : (cur3.toList.take ((k + 1) * 3) ++ (gCells (G.drop k) ++ cur3.toList.drop ((k + 1) * 3 + (gCells (G.drop k)).length))) = cur3.toList := by rw [hD]; simp
        have hY : cur3.toList.take off' ++ [] ++ cur3.toList.drop (off' + ([] : List Value).length) = cur3.toList := by simp
        rw [hX] at HW3
        rw [hY] at hw5
        clear hX hY hD hoff
        obtain ⟨d0, d1, d2, d3, ⟨u0, u1, u2, x0, x1, x2⟩, z0, FIN⟩ := unhide HW3 w5 (by rw [← hw5]; rfl)
        have E5 : Hid (Env w w5) := by rw [← hw5]; exact unhide E3
        have z00 := z0 (k * 3)
        have z01 := z0 (k * 3 + 1)
        have z02 := z0 (k * 3 + 2)
        clear z0 hw5
        go_region
        all_goals go_wp2
        all_goals go_region
        all_goals go_wp2
        all_goals go_ret
        all_goals
          obtain ⟨hrx, hfr, hq⟩ := unhide FIN (((w5.setCell ⟨g3, k * 3, none⟩ (.string ⟨n.toArray⟩)).setCell ⟨g3, k * 3 + 1, none⟩ (.slice va dt.length vk)).setCell ⟨g3, k * 3 + 2, none⟩ (.int .i64 (su : Int))).drew rfl (unhide E5)
          exact ⟨_, fun q => Q q ∨ q = g3, by rw [unhide hless]; rfl, by rw [unhide hless]; exact hrx, hfr, fun q hq' => hq'.elim .inl (fun e => by subst e; exact hq)⟩
end Go.Proofs.YthebgoadeecmpaaDoor
