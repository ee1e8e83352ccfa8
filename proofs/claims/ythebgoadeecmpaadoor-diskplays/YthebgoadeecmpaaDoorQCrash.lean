/- The document's disk: Crash. -/
import Derived.Test.YthebgoadeecmpaaDoorQRen3
import Derived.Test.YthebgoadeecmpaaDoorDCrash
namespace Go.Proofs.YthebgoadeecmpaaDoor
open Go.RowKit Go.Lib Go.Maps Go.WideMaps

/-- One file of the document's disk falls: what the round finds and leaves. -/
theorem rfall_mem {w : World} {r : Nat} {R : RSt} {vf : Value} {G : List Ent} {Q : Nat → Prop} {k : Nat} {e : Ent} (keep : Int) (h : RX w r R vf G Q) (hk : G[k]? = some e) :
    ∃ g cap, vf = .slice (some ⟨g, 0, none⟩) G.length cap ∧ g < w.heap.size ∧ g ≠ r ∧ w.cell? ⟨g, k * 3, none⟩ = some (.string ⟨e.name.toArray⟩) ∧ w.cell? ⟨g, k * 3 + 1, none⟩ = some e.v ∧ w.cell? ⟨g, k * 3 + 2, none⟩ = some (.int .i64 (e.sure : Int)) ∧ (∀ j, w.frozen? ⟨g, j, none⟩ = false) ∧
      leftN keep e ≤ e.data.length ∧ e.sure ≤ e.data.length ∧ e.data.length ≤ 1048576 ∧ (∃ ea ek, e.v = .slice ea e.data.length ek ∧ e.data.length ≤ ek ∧ (ea = none → e.data.length = 0 ∧ ek = 0)) ∧
      ∀ (w' : World) (o : Obj), w'.heap = ((((w.setCell ⟨g, k * 3, none⟩ (.string ⟨e.name.toArray⟩)).setCell ⟨g, k * 3 + 1, none⟩ (shorten e.v (leftN keep e))).setCell ⟨g, k * 3 + 2, none⟩ (.int .i64 (leftN keep e : Int))).alloc o).heap → Env w w' →
        RX w' r R vf (G.set k (fallE keep e)) Q ∧ FrO Q w w' := by
  obtain ⟨g, cap, cur, rfl, hgr, hQg, hcg, k0, k1, k2⟩ := h.file hk
  have hkl : k < G.length := (List.getElem?_eq_some_iff.1 hk).1
  have hgl := h.lt g hQg
  have hl := h.len e (List.mem_of_getElem? hk)
  have hle : leftN keep e ≤ e.data.length := by unfold leftN; omega
  have hv : ∃ ea ek, e.v = .slice ea e.data.length ek ∧ e.data.length ≤ ek ∧ (ea = none → e.data.length = 0 ∧ ek = 0) := by
    rcases h.dat e (List.mem_of_getElem? hk) with ⟨e1, e2⟩ | ⟨b, off, cp, _, _, _, q4, _, q6, _⟩
    · exact ⟨none, 0, by rw [e1, e2]; rfl, by rw [e2]; simp, fun _ => ⟨by rw [e2]; rfl, rfl⟩⟩
    · exact ⟨_, cp, q6, q4, fun hh => by cases hh⟩
  refine ⟨g, cap, rfl, hgl, hgr, by rw [(cellB hcg _).1, ← Array.getElem?_toList, k0], by rw [(cellB hcg _).1, ← Array.getElem?_toList, k1], by rw [(cellB hcg _).1, ← Array.getElem?_toList, k2], fun j => (cellB hcg j).2, hle, hl.1, hl.2, hv, fun w' o hw' henv => ?_⟩
  have hc' : w'.heap[g]? = some (.cells (((cur.setIfInBounds (k * 3) (.string ⟨e.name.toArray⟩)).setIfInBounds (k * 3 + 1) (shorten e.v (leftN keep e))).setIfInBounds (k * 3 + 2) (.int .i64 (leftN keep e : Int))) 61 (0, 0)) := by
    rw [hw', Below.heap_alloc _ _ g (by simp; omega)]
    exact heap_setCell_at (heap_setCell_at (heap_setCell_at hcg _ _) _ _) _ _
  have hO : ∀ q, q < w.heap.size → q ≠ g → w'.heap[q]? = w.heap[q]? := fun q hq hqg => by
    rw [hw', Below.heap_alloc _ _ q (by simp; omega), heap_setCell_ne _ _ hqg, heap_setCell_ne _ _ hqg, heap_setCell_ne _ _ hqg]
  have hz : w.heap.size ≤ w'.heap.size := by rw [hw']; simp
  have hlen : (e.data.take (leftN keep e)).length = leftN keep e := by rw [List.length_take]; omega
  refine ⟨h.chg (e' := fallE keep e) hcg hkl hc' ?_ hO ?_ (fun _ hq => hq) (fun q hq => Nat.lt_of_lt_of_le (h.lt q hq) hz) ⟨?_, ?_⟩ (h.nam e (List.mem_of_getElem? hk)), ⟨hz, fun q hq hn => hO q hq (fun e => hn (e ▸ hQg)), henv⟩⟩
  · show _ = ((cur.toList.set (k * 3) (.string ⟨e.name.toArray⟩)).set (k * 3 + 1) (shorten e.v (leftN keep e))).set (k * 3 + 2) (.int .i64 (leftN keep e : Int))
    rw [Array.toList_setIfInBounds, Array.toList_setIfInBounds, Array.toList_setIfInBounds]
  · show RBq w' Q r _ (shorten e.v (leftN keep e)) (e.data.take (leftN keep e))
    rcases h.dat e (List.mem_of_getElem? hk) with ⟨e1, e2⟩ | ⟨b, off, cp, q1, q2, q3, q4, q5, q6, q7⟩
    · refine .inl ⟨?_, by rw [e2]; simp⟩
      have : leftN keep e = 0 := by rw [e2] at hle; simpa using hle
      rw [e1, this]; rfl
    · refine .inr ⟨b, off, cp, q1, q2, q3, by omega, q5, by rw [q6, hlen]; rfl, fun i hi => ?_⟩
      rw [hlen] at hi
      have hbg : b ≠ g := fun e => q3 (by rw [e]; rfl)
      rw [cell_same (hO b (h.lt b q1) hbg), q7 i (by omega)]
      congr 3
      rw [List.getD_eq_getElem?_getD, List.getD_eq_getElem?_getD, List.getElem?_take, if_pos hi]
  · show leftN keep e ≤ (e.data.take (leftN keep e)).length
    omega
  · show (e.data.take (leftN keep e)).length ≤ 1048576
    omega

theorem set_mid {A B : List Ent} {e e' : Ent} : (A ++ e :: B).set A.length e' = A ++ e' :: B := by
  rw [List.set_append_right _ _ (Nat.le_refl _)]
  simp

set_option maxHeartbeats 6400000 in
set_option maxRecDepth 100000 in
theorem rcrash_any {w : World} {r : Nat} {R : RSt} {vf : Value} {G : List Ent} {Q : Nat → Prop} (kv : Value) (ks : List Int) (h : RX w r R vf G Q) (hk : KeepAt w Q kv ks) (hkl : ks.length ≤ 1000000) :
    Calls Tryd.prog 21 #[.pointer (some ⟨r, 0, none⟩), .agg #[kv]] w fun ev w' => ev = .returned (.tuple #[]) ∧ RX w' r { R with off := false, halt := -1 } vf (crashL ks 0 G) Q ∧ FrO Q w w' := by
  obtain ⟨ka, kc, hkv⟩ : ∃ ka kc, kv = .slice ka ks.length kc := by
    rcases hk.2 with ⟨⟨a, c, rfl⟩, rfl⟩ | ⟨b, off, cap, _, _, _, _, rfl, _⟩
    · exact ⟨a, c, rfl⟩
    · exact ⟨_, _, rfl⟩
  subst hkv
  obtain ⟨va, vcap, rfl, hcapG, hfilesG⟩ := h.files
  clear hcapG hfilesG
  have hfew := h.few
  have HR : Hid (∀ k wr, k < G.length → RX wr r R (.slice va G.length vcap) (crashL ks 0 (G.take k) ++ G.drop k) Q → FrO Q w wr → wr.cell? ⟨w.heap.size, 0, none⟩ = some (.slice ka ks.length kc) → w.heap.size < wr.heap.size →
      ∃ (e : Ent) (g : Nat) (ea : Option Addr) (ek : Nat), va = some ⟨g, 0, none⟩ ∧ g < wr.heap.size ∧ g ≠ r ∧ wr.cell? ⟨g, k * 3, none⟩ = some (.string ⟨e.name.toArray⟩) ∧ wr.cell? ⟨g, k * 3 + 1, none⟩ = some (.slice ea e.data.length ek) ∧ wr.cell? ⟨g, k * 3 + 2, none⟩ = some (.int .i64 (e.sure : Int)) ∧ (∀ j, wr.frozen? ⟨g, j, none⟩ = false) ∧
        leftN (ks.getD k 0) e ≤ e.data.length ∧ e.sure ≤ e.data.length ∧ e.data.length ≤ 1048576 ∧ e.data.length ≤ ek ∧ (ea = none → e.data.length = 0 ∧ ek = 0) ∧
        (∀ x, ks[k]? = some x → ∃ kb off, ka = some ⟨kb, off, none⟩ ∧ kb < wr.heap.size ∧ wr.cell? ⟨kb, off + k, none⟩ = some (.int .i64 x)) ∧
        (∀ (w' : World) (o : Obj), w'.heap = ((((wr.setCell ⟨g, k * 3, none⟩ (.string ⟨e.name.toArray⟩)).setCell ⟨g, k * 3 + 1, none⟩ (.slice ea (leftN (ks.getD k 0) e) ek)).setCell ⟨g, k * 3 + 2, none⟩ (.int .i64 (leftN (ks.getD k 0) e : Int))).alloc o).heap → Env wr w' →
          RX w' r R (.slice va G.length vcap) (crashL ks 0 (G.take (k + 1)) ++ G.drop (k + 1)) Q ∧ FrO Q w w' ∧ w'.cell? ⟨w.heap.size, 0, none⟩ = some (.slice ka ks.length kc) ∧ w.heap.size < w'.heap.size)) := by
    intro k wr hkG hxr hfr hcr hzr
    obtain ⟨e, hek⟩ : ∃ e, G[k]? = some e := ⟨G[k], List.getElem?_eq_getElem hkG⟩
    have hdrop : G.drop k = e :: G.drop (k + 1) := by rw [List.drop_eq_getElem_cons hkG]; congr 1; rw [List.getElem?_eq_getElem hkG] at hek; exact Option.some.inj hek
    have htake : G.take (k + 1) = G.take k ++ [e] := by rw [List.take_add_one, hek]; rfl
    have hlk : (crashL ks 0 (G.take k)).length = k := by rw [length_crashL, List.length_take]; omega
    have hget : (crashL ks 0 (G.take k) ++ G.drop k)[k]? = some e := by rw [hdrop, List.getElem?_append_right (by omega), hlk]; simp
    obtain ⟨g, cap, hvf, hgl, hgr, q0, q1, q2, q3, q4, q5, q6, ⟨ea, ek, hev, hel, hen⟩, q7⟩ := rfall_mem (ks.getD k 0) hxr hget
    injection hvf with hva _ _
    refine ⟨e, g, ea, ek, hva, hgl, hgr, q0, by rw [q1, hev], q2, q3, q4, q5, q6, hel, hen, fun x hx => ?_, fun w' o hw' henv => ?_⟩
    · rcases hk.2 with ⟨_, rfl⟩ | ⟨kb, off, cap, hkb, hkn, _, _, hkv, hkc⟩
      · simp at hx
      · injection hkv with hka _ _
        refine ⟨kb, off, hka, Nat.lt_of_lt_of_le hkb hfr.size, ?_⟩
        rw [cell_same (hfr.blk kb hkb hkn) _]
        exact hkc k x hx
    · obtain ⟨hx', hf'⟩ := q7 w' o (by rw [hev]; exact hw') henv
      have hset : (crashL ks 0 (G.take k) ++ G.drop k).set k (fallE (ks.getD k 0) e) = crashL ks 0 (G.take (k + 1)) ++ G.drop (k + 1) := by
        have := set_mid (A := crashL ks 0 (G.take k)) (B := G.drop (k + 1)) (e := e) (e' := fallE (ks.getD k 0) e)
        rw [hlk] at this
        rw [hdrop, this, htake, crashL_append]
        have hlt : (G.take k).length = k := by rw [List.length_take]; omega
        simp only [crashL, hlt, Nat.zero_add, List.append_assoc, List.cons_append, List.nil_append]
      rw [hset] at hx'
      have hnQ : ¬ Q w.heap.size := fun hh => absurd (h.lt _ hh) (by omega)
      refine ⟨hx', hfr.trans hf' (fun _ _ hh => hh), (cell_same (hf'.blk _ hzr hnQ) 0).trans hcr, Nat.lt_of_lt_of_le hzr hf'.size⟩
  have hrng : Hid (∀ x ∈ ks, -9223372036854775808 ≤ x ∧ x ≤ 9223372036854775807) := hk.1
  have H0 : Hid (RX (w.alloc (.cells #[.slice ka ks.length kc] 31)) r R (.slice va G.length vcap) G Q) := h.keep (by simp) (fun q hq => Below.heap_alloc _ _ q (h.lt q hq))
  have HQ : Hid (∀ q, Q q → q < w.heap.size) := h.lt
  clear hk h
  go_enter Tryd.func21, Tryd.ntmps21
  go_wp2
  go_loopw [4] (fun i wr => ∃ k : Nat, k ≤ G.length ∧ i = .int .i64 k ∧ Hid (RX wr r R (.slice va G.length vcap) (crashL ks 0 (G.take k) ++ G.drop k) Q) ∧ Hid (FrO Q w wr) ∧ wr.cell? ⟨w.heap.size, 0, none⟩ = some (.slice ka ks.length kc) ∧ w.heap.size < wr.heap.size) (fun i _ => G.length - (intOf i).toNat)
  case atStart => exact ⟨0, by omega, rfl, hide (by simpa [crashL] using unhide H0), (FrO.refl Q w).alloc _, by simp, by simp⟩
  case round =>
    obtain ⟨k, hkG, rfl, hx, hf, hcr, hzr⟩ := hrel
    have c0 := (unhide hx).cells.1
    have hlenL : (crashL ks 0 (G.take k) ++ G.drop k).length = G.length := by rw [List.length_append, length_crashL, List.length_take, List.length_drop]; omega
    by_cases hlt : k < G.length
    · obtain ⟨e, g, ea, ek, rfl, hgl, hgr, q0, q1, q2, q3, q4, q5, q6, q8, q9, q10, q11⟩ := unhide HR k wr hlt (unhide hx) (unhide hf) hcr hzr
      have hki : (k : Int) < (G.length : Int) := by omega
      have hk0 : (0 : Int) ≤ (k : Int) := by omega
      have QF := hide q11
      have f0 := q3 (k * 3)
      have f1 := q3 (k * 3 + 1)
      have f2 := q3 (k * 3 + 2)
      have hrl : r < wr.heap.size := (unhide hx).lt r (unhide hx).oR
      have hn1 : ¬ g = wr.heap.size := by omega
      have hn2 : ¬ wr.heap.size = g := by omega
      have hn3 : ¬ r = wr.heap.size := by omega
      have hn4 : ¬ wr.heap.size = r := by omega
      have hn5 : ¬ w.heap.size = wr.heap.size := by omega
      have hn6 : ¬ wr.heap.size = w.heap.size := by omega
      clear q3 q11 HR
      obtain ⟨x, hxk⟩ : ∃ x, ks.getD k 0 = x := ⟨_, rfl⟩
      rw [hxk] at q4 QF
      generalize hN : leftN x e = N at *
      have hE : (e.sure : Int) + max 0 (min x ((e.data.length : Int) - (e.sure : Int))) = (N : Int) := by
        unfold leftN at hN; omega
      clear hN
      generalize e.data.length = n at *
      generalize e.sure = su at *
      have hw0 : IntKind.i64.wrap ((n : Int) - (su : Int)) = (n : Int) - (su : Int) := by rw [IntKind.wrap_i64] <;> omega
      have hw1 : IntKind.i64.wrap ((su : Int) + max 0 (min x ((n : Int) - (su : Int)))) = (N : Int) := by rw [hE, IntKind.wrap_i64] <;> omega
      have hw2 : IntKind.i64.wrap (N : Int) = (N : Int) := by rw [IntKind.wrap_i64] <;> omega
      have hN0 : (0 : Int) ≤ (N : Int) := by omega
      have hNc : (N : Int) ≤ (ek : Int) := by omega
      by_cases hkk : k < ks.length
      · obtain ⟨y, hy⟩ : ∃ y, ks[k]? = some y := ⟨ks[k], List.getElem?_eq_getElem hkk⟩
        obtain ⟨kb, off, rfl, hkbl, q12⟩ := q10 y hy
        have hyx : y = x := by rw [← hxk, List.getD_eq_getElem?_getD, hy]; rfl
        subst hyx
        have hkk' : (k : Int) < (ks.length : Int) := by omega
        have hn7 : ¬ kb = wr.heap.size := by omega
        have hn8 : ¬ wr.heap.size = kb := by omega
        have hrx := unhide hrng y (List.mem_of_getElem? hy)
        clear q10 hxk hy hrx
        go_wp2
        go_region
        all_goals go_wp2
        all_goals go_region
        all_goals go_wp2
        all_goals go_roundw
        case rel =>
          obtain ⟨z1, z2, z3, z4⟩ := unhide QF ((((wr.setCell ⟨g, k * 3, none⟩ (.string ⟨e.name.toArray⟩)).setCell ⟨g, k * 3 + 1, none⟩ (.slice ea N ek)).setCell ⟨g, k * 3 + 2, none⟩ (.int .i64 (N : Int))).alloc (.cells #[.string ⟨e.name.toArray⟩, .slice ea N ek, .int .i64 (N : Int)] 61)).drew.drew _ rfl ⟨rfl, rfl, rfl⟩
          exact ⟨k + 1, by omega, by go_num, z1, z2, z3, z4⟩
        case measure => simp [intOf]; omega
      · have hx0 : x = 0 := by rw [← hxk, List.getD_eq_getElem?_getD, List.getElem?_eq_none (by omega)]; rfl
        subst hx0
        have hNs : (su : Int) = (N : Int) := by omega
        have hkk' : ¬ ((k : Int) < (ks.length : Int)) := by omega
        clear q10 hxk hE hw1 hw0
        have hsuN : su = N := by omega
        subst hsuN
        clear hNs
        go_wp2
        go_region
        all_goals go_wp2
        all_goals go_roundw
        case rel =>
          obtain ⟨z1, z2, z3, z4⟩ := unhide QF ((((wr.setCell ⟨g, k * 3, none⟩ (.string ⟨e.name.toArray⟩)).setCell ⟨g, k * 3 + 1, none⟩ (.slice ea su ek)).setCell ⟨g, k * 3 + 2, none⟩ (.int .i64 (su : Int))).alloc (.cells #[.string ⟨e.name.toArray⟩, .slice ea su ek, .int .i64 (su : Int)] 61)).drew _ rfl ⟨rfl, rfl, rfl⟩
          exact ⟨k + 1, by omega, by go_num, z1, z2, z3, z4⟩
        case measure => simp [intOf]; omega
    · have hki : ¬ ((k : Int) < (G.length : Int)) := by omega
      have hkL : k = G.length := by omega
      subst hkL
      have hx9 : RX wr r R (.slice va G.length vcap) (crashL ks 0 G) Q := by simpa using unhide hx
      obtain ⟨_, _, z2, z3, _⟩ := hx9.cells
      have y2 := (cellB hx9.blk 2).2
      have y3 := (cellB hx9.blk 3).2
      have HX9 := hide hx9
      clear hx9 HR
      go_wp2
      go_end0
      have hx9 := unhide HX9
      obtain ⟨s1, s2, s3⟩ := rset_at hx9.blk 2 (.bool false)
      obtain ⟨t1, t2, t3⟩ := rset_at s1 3 (.int .i64 (-1))
      exact ⟨rfl, hx9.set (R' := { R with off := false, halt := -1 }) (t2.trans s2) (fun q hq => (t3 q hq).trans (s3 q hq)) t1, ((unhide hf).set hx9.oR 2 _).set hx9.oR 3 _⟩
end Go.Proofs.YthebgoadeecmpaaDoor
