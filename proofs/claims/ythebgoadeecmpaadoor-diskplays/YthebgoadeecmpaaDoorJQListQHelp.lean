/- The document's disk: New, List. -/
import Derived.Test.YthebgoadeecmpaaDoorJQUsedQCopyQAdd
import Derived.Test.YthebgoadeecmpaaDoorQCrash
import Derived.Deep.QuietTactic
import Derived.BigQuiet
namespace Go.Proofs.YthebgoadeecmpaaDoor
open Go.RowKit Go.Lib Go.Maps Go.WideMaps

set_option maxHeartbeats 1600000 in
theorem rnew_any (w : World) (room : Int) : Calls Tryd.prog 6 #[.int .i64 room] w fun e w' => e = .returned (.pointer (some ⟨w.heap.size, 0, none⟩)) ∧ RX w' w.heap.size ⟨max room 0, false, -1, 0⟩ (.slice none 0 0) [] (fun k => k = w.heap.size) ∧ Below w.heap.size w w' := by
  go_enter Tryd.func6, Tryd.ntmps6
  go_wp2
  go_ret
  refine ⟨rfl, ⟨(MapKept.heap_alloc w _).1, World.ownsRow_nil _ _ _ _, fun e he => (by cases he), by simp, fun e he => (by cases he), fun e he => (by cases he), rfl, fun k hk => by simp [Value.ownBlock] at hk, fun k hk => by subst hk; simp⟩, (Below.refl _ _).alloc (Nat.le_refl _) _⟩

theorem Tryd.infoS : (Tryd.prog.info? 9).map (fun i => (i.zero, i.size, i.bytes)) = some (some (.string ⟨#[]⟩), 1, 16) := by kernel_rfl

set_option maxHeartbeats 3200000 in
set_option maxRecDepth 100000 in
theorem rlist_any {w : World} {r : Nat} {R : RSt} {vf : Value} {G : List Ent} {Q : Nat → Prop} (h : RX w r R vf G Q) :
    Calls Tryd.prog 25 #[.pointer (some ⟨r, 0, none⟩)] w fun e w' => ∃ v, e = .returned v ∧ w'.ownsRow w.heap.size 9 1 v G.length ((G.map (·.name)).map encStr) ∧ Below w.heap.size w w' := by
  obtain ⟨i0, hi, hz0, hz1, hz2⟩ := info_parts Tryd.infoS
  obtain ⟨a, cap, rfl, hcap, hfl⟩ := h.files
  have c0 := h.cells.1
  have hfew := h.few
  have hrlt := h.lt r h.oR
  have HF := hide hfl
  have hG : (G.length : Int) ≤ 64 := by omega
  clear h hfl
  go_enter Tryd.func25, Tryd.ntmps25
  go_wp2
  go_loopw [3, 4] (fun v i wr => ∃ k : Nat, k ≤ G.length ∧ i = .int .i64 k ∧ Hid (wr.ownsRow w.heap.size 9 1 v k (((G.take k).map (·.name)).map encStr)) ∧ Hid (Below w.heap.size w wr)) (fun _ i _ => G.length - (intOf i).toNat)
  case atStart => exact ⟨0, by omega, rfl, World.ownsRow_nil _ _ _ _, Below.refl _ _⟩
  case round =>
    obtain ⟨k, hk, rfl, hrow, hb⟩ := hrel
    have cr : wr.cell? ⟨r, 0, none⟩ = some (.slice a G.length cap) := ((unhide hb).cell (p := ⟨r, 0, none⟩) hrlt).trans c0
    by_cases hlt : k < G.length
    · obtain ⟨e, hek⟩ : ∃ e, G[k]? = some e := ⟨G[k], List.getElem?_eq_getElem hlt⟩
      obtain ⟨g, rfl, _, hgl, cn, _, _, _⟩ := unhide HF k e hek
      have cn' : wr.cell? ⟨g, k * 3, none⟩ = some (.string ⟨e.name.toArray⟩) := ((unhide hb).cell (p := ⟨g, k * 3, none⟩) hgl).trans cn
      have hlt' : (k : Int) < (G.length : Int) := by omega
      have hbz := (unhide hb).size
      have HR : Hid ((wr.alloc (.cells #[.string ⟨e.name.toArray⟩] 9)).ownsRow w.heap.size 9 1 u3 k (((G.take k).map (·.name)).map encStr)) := by
        obtain ⟨r1, r2 | ⟨g', cap', cur', e1, hb', hc', rr⟩⟩ := unhide hrow
        · exact ⟨r1, .inl r2⟩
        · exact ⟨r1, .inr ⟨g', cap', cur', e1, hb', (Below.heap_alloc _ _ g' (Array.getElem?_eq_some_iff.1 hc').1).trans hc', rr⟩⟩
      have HN : Hid (∀ j u, ([.string ⟨e.name.toArray⟩] : List Value)[j]? = some u → (wr.alloc (.cells #[.string ⟨e.name.toArray⟩] 9)).cell? ((⟨wr.heap.size, 0, none⟩ : Addr).add j) = some u) := by
        intro j u hj
        rw [Go.WideShapes.add_plain]
        match j, hj with
        | 0, hj => simp at hj; subst hj; simp
      have HB : Hid (∀ w3, (wr.alloc (.cells #[.string ⟨e.name.toArray⟩] 9)).grownBy w3 u3.ownBlock → Below w.heap.size w w3) := by
        intro w3 hg
        refine (((unhide hb).trans ((Below.refl _ _).alloc (by omega) _))).grown hg (by simp; omega) (fun q hq => ?_)
        rcases (unhide hrow).2 with ⟨e1, _⟩ | ⟨g', cap', cur', e1, hb', _⟩
        · rw [e1] at hq; simp [Value.ownBlock] at hq
        · rw [e1] at hq; simp [Value.ownBlock] at hq; omega
      have HT : Hid (((G.take (k + 1)).map (·.name)).map encStr = ((G.take k).map (·.name)).map encStr ++ [.string ⟨e.name.toArray⟩]) := by
        show _ = _
        rw [List.take_add_one, hek]
        simp [encStr]
      clear HF cn c0 hrow
      go_wp2_with (first
        | (at_builtin; refine wpList_append_own _ rfl _ _ 49 rfl w.heap.size 9 i0 _ 1 16 Tryd.underlying49 hi hz0 hz1 hz2 rfl (by decide) u3 k (((G.take k).map (·.name)).map encStr) rfl (unhide HR) ⟨wr.heap.size, 0, none⟩ 1 1 [.string ⟨e.name.toArray⟩] rfl rfl (unhide HN) (by intro u hu; simp at hu; subst hu; rfl) (by unfold maxLen; omega) (by omega) (by simp; omega) ?_; intro v3 w3 hrow3 hg3 _; have B3 := hide (unhide HB w3 hg3); have R3 := hide hrow3; clear hrow3 hg3))
      go_roundw
      case rel => exact ⟨k + 1, by omega, by go_num, by show World.ownsRow _ _ _ _ _ _ _; rw [unhide HT]; exact unhide R3, unhide B3⟩
      case measure => simp [intOf]; omega
    · have hlt' : ¬ (k : Int) < (G.length : Int) := by omega
      have hkG : k = G.length := by omega
      subst hkG
      rw [List.take_length] at hrow
      clear HF c0
      go_wp2
      go_ret
      have hrow' := unhide hrow
      rw [List.map_map] at hrow'
      exact ⟨_, rfl, hrow', unhide hb⟩
end Go.Proofs.YthebgoadeecmpaaDoor
/- The statement's own helps: Texts, Spoil. -/
namespace Go.Proofs.YthebgoadeecmpaaDoor
open Go.RowKit Go.Lib Go.Maps Go.WideMaps

/-- A row of one's own: none, or cells of a block. -/
theorem own_cells {w : World} {B : Nat} {T : TypeId} {v : Value} {n : Nat} {xs : List Value} (h : w.ownsRow B T 1 v n xs) : (v = .slice none 0 0 ∧ n = 0) ∨ ∃ g cap cur, v = .slice (some ⟨g, 0, none⟩) n cap ∧ B ≤ g ∧ w.heap[g]? = some (.cells cur T (0, 0)) ∧ n ≤ cap ∧ n ≤ cur.size ∧ ∀ i x, xs[i]? = some x → w.cell? ⟨g, i, none⟩ = some x := by
  obtain ⟨h1, ⟨e1, e2⟩ | ⟨g, cap, cur, e1, hb, hc, r2, r3, r4, r5⟩⟩ := h
  · exact .inl ⟨e1, e2⟩
  · refine .inr ⟨g, cap, cur, e1, hb, hc, r2, by omega, fun i x hx => ?_⟩
    rw [(cellB hc i).1, ← Array.getElem?_toList]
    rw [← r5, List.getElem?_take] at hx
    split at hx
    · exact hx
    · cases hx

set_option maxHeartbeats 1600000 in
set_option maxRecDepth 100000 in
theorem texts_rows {w : World} {v v' : Value} {B B' : Nat} (ns : List (List UInt8)) (h : w.ownsRow B 9 1 v ns.length (ns.map encStr)) (h' : w.ownsRow B' 9 1 v' ns.length (ns.map encStr)) (hl : ns.length ≤ 64) :
    Calls Tryd.prog 23 #[v, v'] w fun e w' => e = .returned (.bool true) ∧ ∃ m, w' = w.drewN m := by
  have hl' : (ns.length : Int) ≤ 64 := by omega
  by_cases h0 : ns = []
  · subst h0
    obtain ⟨a, k, rfl⟩ := own_sl h
    obtain ⟨a', k', rfl⟩ := own_sl h'
    clear h h' hl hl'
    go_enter Tryd.func23, Tryd.ntmps23
    go_wp2
    refine wp_loop_rounds 1 ?_
    rw [rounds_succ]
    go_wp2
    go_ret
    exact ⟨rfl, 0, rfl⟩
  · have hpos : 0 < ns.length := List.length_pos_iff.2 h0
    rcases own_cells h with ⟨_, e2⟩ | ⟨g, cap, cur, rfl, _, _, _, _, hc⟩
    · omega
    rcases own_cells h' with ⟨_, e2⟩ | ⟨g', cap', cur', rfl, _, _, _, _, hc'⟩
    · omega
    have HC : Hid (∀ k n, ns[k]? = some n → w.cell? ⟨g, k, none⟩ = some (.string ⟨n.toArray⟩)) := fun k n hk => hc k _ (by rw [List.getElem?_map, hk]; rfl)
    have HC' : Hid (∀ k n, ns[k]? = some n → w.cell? ⟨g', k, none⟩ = some (.string ⟨n.toArray⟩)) := fun k n hk => hc' k _ (by rw [List.getElem?_map, hk]; rfl)
    clear hc hc' h h' h0 hpos
    go_enter Tryd.func23, Tryd.ntmps23
    go_wp2
    go_loopw [5] (fun i wr => ∃ k m : Nat, k ≤ ns.length ∧ i = .int .i64 k ∧ wr = w.drewN m) (fun i _ => ns.length - (intOf i).toNat)
    case atStart => exact ⟨0, 0, by omega, rfl, rfl⟩
    case round =>
      obtain ⟨k, m, hk, rfl, rfl⟩ := hrel
      by_cases hlt : k < ns.length
      · obtain ⟨n, hgk⟩ : ∃ n, ns[k]? = some n := ⟨ns[k], List.getElem?_eq_getElem hlt⟩
        have c0 := unhide HC k n hgk
        have d0 := unhide HC' k n hgk
        have hki : (k : Int) < (ns.length : Int) := by omega
        have hk0 : (0 : Int) ≤ (k : Int) := by omega
        clear HC HC' hgk
        go_wp2
        go_quiet (fail)
        go_wp2
        go_roundw
        case rel => exact ⟨k + 1, m + nq, by omega, by go_num, rfl⟩
        case measure => simp [intOf]; omega
      · have hki : ¬ (k : Int) < (ns.length : Int) := by omega
        clear HC HC'
        go_wp2
        go_ret
        exact ⟨rfl, m, rfl⟩

set_option maxHeartbeats 1600000 in
set_option maxRecDepth 100000 in
theorem spoil_own {w : World} {v : Value} {B : Nat} {n : Nat} {xs : List Value} (h : w.ownsRow B 5 1 v n xs) (hl : n ≤ 2000000) :
    Calls Tryd.prog 9 #[v] w fun e w' => e = .returned (.tuple #[]) ∧ FrO (fun k => v.ownBlock = some k) w w' := by
  have hl' : (n : Int) ≤ 2000000 := by omega
  rcases own_cells h with ⟨rfl, rfl⟩ | ⟨g, cap, cur, rfl, _, hcur, _, hsz, _⟩
  · clear h
    go_enter Tryd.func9, Tryd.ntmps9
    go_wp2
    refine wp_loop_rounds 1 ?_
    rw [rounds_succ]
    go_wp2
    go_end0
    exact ⟨rfl, FrO.refl _ _⟩
  · have HC : Hid (∀ (wr : World) (k : Nat) (cr : Array Value), wr.heap[g]? = some (.cells cr 5 (0, 0)) → n ≤ cr.size → k < n → ∃ x, wr.cell? ⟨g, k, none⟩ = some x ∧ wr.frozen? ⟨g, k, none⟩ = false) := fun wr k cr hc hn hk => by
      refine ⟨cr[k]'(by omega), ?_, (cellB hc k).2⟩
      rw [(cellB hc k).1]
      exact Array.getElem?_eq_getElem (by omega)
    clear h
    go_enter Tryd.func9, Tryd.ntmps9
    go_wp2
    go_loopw [2] (fun i wr => ∃ k : Nat, k ≤ n ∧ i = .int .i64 k ∧ Hid (FrO (fun q => (Value.slice (some ⟨g, 0, none⟩) n cap).ownBlock = some q) w wr) ∧ Hid (∃ cr : Array Value, wr.heap[g]? = some (.cells cr 5 (0, 0)) ∧ n ≤ cr.size)) (fun i _ => n - (intOf i).toNat)
    case atStart => exact ⟨0, by omega, rfl, FrO.refl _ _, cur, hcur, hsz⟩
    case round =>
      obtain ⟨k, hk, rfl, hf, hc⟩ := hrel
      by_cases hlt : k < n
      · obtain ⟨cr, hcr, hcs⟩ := unhide hc
        obtain ⟨x, c0, f0⟩ := unhide HC wr k cr hcr hcs hlt
        have hki : (k : Int) < (n : Int) := by omega
        have hk0 : (0 : Int) ≤ (k : Int) := by omega
        have HS : Hid (∃ cr' : Array Value, (wr.setCell ⟨g, k, none⟩ (.int .u8 238)).heap[g]? = some (.cells cr' 5 (0, 0)) ∧ n ≤ cr'.size) := ⟨_, heap_setCell_at hcr k _, by simpa using hcs⟩
        clear hcr HC
        go_wp2
        go_roundw
        case rel => exact ⟨k + 1, by omega, by go_num, (unhide hf).set rfl k _, unhide HS⟩
        case measure => simp [intOf]; omega
      · have hki : ¬ (k : Int) < (n : Int) := by omega
        clear HC
        go_wp2
        go_end0
        exact ⟨rfl, unhide hf⟩
end Go.Proofs.YthebgoadeecmpaaDoor
