/- The last item of all: last. -/
import Derived.Test.YtlmjmhpdpgeplaaGreatDoorJTPutTTBr
namespace Go.Proofs.YtlmjmhpdpgeplaaGreatDoor
open Go.RowKit Go.Lib

/-- The last kid has the last items. -/
theorem flat_last {d : Nat} {t : BT (d + 2)} (hs : Shp (d + 1) t) : ∃ k A, t.kids[t.kids.length - 1]? = some k ∧ Fine d k ∧ flat (d + 1) t = A ++ flat d k := by
  obtain ⟨h1, h2⟩ := shp_succ.1 hs
  have hk : t.kids[t.kids.length - 1]? = some (t.kids[t.kids.length - 1]'(by omega)) := List.getElem?_eq_getElem _
  obtain ⟨A, B, e1, _, e3, _⟩ := flat_around (t := t) h1 hk
  refine ⟨_, A, hk, h2 _ (List.mem_of_getElem? hk), ?_⟩
  rw [e1, e3, List.drop_eq_nil_of_le (by omega)]
  simp [wpost]
/-- What stands at the loop's head. -/
def LastH (w : World) (O : Nat → Prop) (F : List It) (g : Nat) (wr : World) : Prop :=
  ∃ (t : BT (g + 1)) (a b : Option Addr) (k k' : Nat), NV wr w.heap.size (.slice a t.its.length k) (.slice b t.kids.length k') ∧ NodeAt wr (fun g => O g ∧ g < w.heap.size) g t (.slice a t.its.length k) (.slice b t.kids.length k') ∧ Shp g t ∧ 1 ≤ t.its.length ∧ (∃ A, F = A ++ flat g t) ∧ IV wr (w.heap.size + 1) (⟨#[]⟩, ⟨#[]⟩) ∧ Below w.heap.size w wr
set_option maxHeartbeats 12800000 in
set_option maxRecDepth 100000 in
theorem last_t {w : World} {O : Nat → Prop} {d : Nat} {t : BT (d + 1)} {vi vk : Value} (ht : NodeAt w O d t vi vk) (hs : Shp d t) (h1 : 1 ≤ t.its.length) :
    Calls Tryz.prog 39 #[.agg #[vi, vk]] w fun e w' => ∃ y A, flat d t = A ++ [y] ∧ e = .returned (.agg #[.string y.1, .string y.2]) ∧ Below w.heap.size w w' := by
  obtain ⟨ia, ik, ka, kk, rfl, rfl⟩ := one_cells ht
  obtain ⟨W0, hW0⟩ : ∃ W0, W0 = (w.alloc (.cells #[.slice ia t.its.length ik, .slice ka t.kids.length kk] 54)).alloc (.cells #[.string ⟨#[]⟩, .string ⟨#[]⟩] 62) := ⟨_, rfl⟩
  have H0 : Hid (LastH w O (flat d t) d W0) := by
    have hb : Below w.heap.size w W0 := by rw [hW0]; exact ((Below.refl _ _).alloc (Nat.le_refl _) _).alloc (by simp) _
    refine ⟨t, ia, ka, ik, kk, ?_, ht.lt.below hb, hs, h1, ⟨[], rfl⟩, ?_, hb⟩
    · rw [hW0]; exact (NV.new w _ _).below ((Below.refl _ _).alloc (Nat.le_refl _) _)
    · have : IV ((w.alloc (.cells #[.slice ia t.its.length ik, .slice ka t.kids.length kk] 54)).alloc (.cells #[.string ⟨#[]⟩, .string ⟨#[]⟩] 62)) (w.alloc (.cells #[.slice ia t.its.length ik, .slice ka t.kids.length kk] 54)).heap.size (⟨#[]⟩, ⟨#[]⟩) := heap_alloc_new _ _
      rw [World.size_alloc] at this
      rw [hW0]; exact this
  generalize hF : flat d t = F at *
  clear ht hs h1 hF
  go_enter Tryz.func39, Tryz.ntmps39
  go_wp2_with fail
  rw [← hW0]
  clear hW0
  go_loopg [] d (fun g wr => Hid (LastH w O F g wr))
  case atStart => exact unhide H0
  case round =>
    clear H0
    obtain ⟨t', a, b, k, k', v1, hn, hs, h1, ⟨A, hA⟩, iv, hb⟩ := unhide hrel
    clear hrel
    obtain ⟨q1, ks, q2, q3⟩ := node_iff.1 hn
    obtain ⟨c0, c1, _, _⟩ := v1.cells
    have hil : (t'.its.length : Int) ≤ 9223372036854775807 := by
      obtain ⟨_, _, e, h2, h3⟩ := q1.1.slice
      rw [List.length_map] at h2
      unfold maxLen at h3
      omega
    have hkl : (t'.kids.length : Int) ≤ 9223372036854775807 := by
      obtain ⟨_, _, e, h2, h3⟩ := q2.1.slice
      rw [q3.len] at h2
      unfold maxLen at h3
      omega
    cases gk with
    | zero =>
      have hk0 : t'.kids.length = 0 := by rw [show t'.kids = [] from hs]; rfl
      have hy : t'.its[t'.its.length - 1]? = some (t'.its[t'.its.length - 1]'(by omega)) := List.getElem?_eq_getElem _
      generalize t'.its[t'.its.length - 1]'(by omega) = y at hy
      obtain ⟨ib, io, rfl, hib, y0, y1⟩ := q1.1.at (i := t'.its.length - 1) (x := itV y) (by rw [List.getElem?_map, hy]; rfl)
      have hlast : ∃ B, F = B ++ [y] := by
        refine ⟨A ++ t'.its.take (t'.its.length - 1), ?_⟩
        have := split_at hy
        rw [List.drop_eq_nil_of_le (by omega)] at this
        rw [hA, flat_zero, List.append_assoc, ← this]
      obtain ⟨m, hm⟩ : ∃ m, m = t'.its.length - 1 := ⟨_, rfl⟩
      have hmi : ((t'.its.length : Int) - 1) = (m : Int) := by omega
      rw [← hm] at y0 y1
      have HI : Hid (Calls Tryz.prog 36 #[.agg #[.slice (some ⟨ib, io, none⟩) t'.its.length k, .slice b t'.kids.length k']] wr fun e w3 => e = .returned (.bool false) ∧ (w3.cell? ⟨w.heap.size, 0, none⟩ = some (.slice (some ⟨ib, io, none⟩) t'.its.length k) ∧ w3.cell? ⟨w.heap.size, 1, none⟩ = some (.slice b t'.kids.length k')) ∧ (w3.cell? ⟨w.heap.size + 1, 0, none⟩ = some (.string ⟨#[]⟩) ∧ w3.cell? ⟨w.heap.size + 1, 1, none⟩ = some (.string ⟨#[]⟩) ∧ w3.frozen? ⟨w.heap.size + 1, 0, none⟩ = false ∧ w3.frozen? ⟨w.heap.size + 1, 1, none⟩ = false) ∧ (w3.cell? ⟨ib, io + m * 2, none⟩ = some (.string y.1) ∧ w3.cell? ⟨ib, io + m * 2 + 1, none⟩ = some (.string y.2)) ∧ Hid (Below w.heap.size w w3)) := by
        refine (inner_any _ _ ks wr q2.1).mono ?_
        rintro e w3 ⟨rfl, hb3⟩
        have u1 := (v1.below hb3).cells
        have u2 := iv.below hb3
        exact ⟨by rw [q3.len, hk0]; rfl, ⟨u1.1, u1.2.1⟩, ⟨u2.cells.1, u2.cells.2, frzB2 u2 0, frzB2 u2 1⟩, ⟨(hb3.cell (p := ⟨ib, _, none⟩) hib).trans y0, (hb3.cell (p := ⟨ib, _, none⟩) hib).trans y1⟩, below_tr hb hb3⟩
      have hml : (m : Int) < (t'.its.length : Int) := by omega
      have hm0 : (0 : Int) ≤ (m : Int) := by omega
      have hwm : IntKind.i64.wrap (m : Int) = (m : Int) := by rw [IntKind.wrap_i64] <;> omega
      have HLa := hide hlast
      clear hn hs h1 hA iv hb q1 q2 q3 v1 hy y0 y1 hib hlast hm hk0
      go_wp2_with (go_at_call 36; refine (unhide HI).mono ?_; rintro e w3 ⟨rfl, ⟨d0, d1⟩, ⟨r0, r1, g0, g1⟩, ⟨m0, m1⟩, HB3⟩; clear HI)
      obtain ⟨B, hB⟩ := unhide HLa
      refine bodyPost_ret (v := .agg #[.string y.1, .string y.2]) ?_ rfl ?_
      · rw [results_cell1' rfl]
        go_simp
      exact ⟨y, B, hB, rfl, set2_below (unhide HB3) (by omega)⟩
    | succ g =>
      obtain ⟨kid, A', hkid, hfk, hAk⟩ := flat_last hs
      have hkp : 0 < t'.kids.length := by have := (shp_succ.1 hs).1; omega
      obtain ⟨ki, kv, ek, hkn⟩ := q3.get hkid
      obtain ⟨kb, ko, rfl, hkb, l0, l1⟩ := q2.1.at ek
      obtain ⟨kia, kik, kka, kkk, rfl, rfl⟩ := one_cells hkn
      obtain ⟨m, hm⟩ : ∃ m, m = t'.kids.length - 1 := ⟨_, rfl⟩
      have hmi : ((t'.kids.length : Int) - 1) = (m : Int) := by omega
      rw [← hm] at l0 l1
      have HI : Hid (Calls Tryz.prog 36 #[.agg #[.slice a t'.its.length k, .slice (some ⟨kb, ko, none⟩) t'.kids.length k']] wr fun e w3 => e = .returned (.bool true) ∧ (w3.cell? ⟨w.heap.size, 0, none⟩ = some (.slice a t'.its.length k) ∧ w3.cell? ⟨w.heap.size, 1, none⟩ = some (.slice (some ⟨kb, ko, none⟩) t'.kids.length k') ∧ w3.frozen? ⟨w.heap.size, 0, none⟩ = false ∧ w3.frozen? ⟨w.heap.size, 1, none⟩ = false) ∧ (w3.cell? ⟨kb, ko + m * 2, none⟩ = some (.slice kia kid.its.length kik) ∧ w3.cell? ⟨kb, ko + m * 2 + 1, none⟩ = some (.slice kka kid.kids.length kkk)) ∧ Hid (LastH w O F g ((w3.setCell ⟨w.heap.size, 0, none⟩ (.slice kia kid.its.length kik)).setCell ⟨w.heap.size, 1, none⟩ (.slice kka kid.kids.length kkk)))) := by
        refine (inner_any _ _ ks wr q2.1).mono ?_
        rintro e w3 ⟨rfl, hb3⟩
        have u1 := v1.below hb3
        have u2 := iv.below hb3
        refine ⟨by rw [q3.len]; simp; omega, u1.cells, ⟨(hb3.cell (p := ⟨kb, _, none⟩) hkb).trans l0, (hb3.cell (p := ⟨kb, _, none⟩) hkb).trans l1⟩, kid, kia, kka, kik, kkk, u1.set, (hkn.below hb3).keep (by simp) (fun g hg _ => set2_ne (by omega)), hfk.1, hfk.2.1, ⟨A ++ A', by rw [hA, hAk, List.append_assoc]⟩, (set2_ne (by omega)).trans u2, set2_below (below_tr hb hb3) (Nat.le_refl _)⟩
      have hml : (m : Int) < (t'.kids.length : Int) := by omega
      have hm0 : (0 : Int) ≤ (m : Int) := by omega
      have hwm : IntKind.i64.wrap (m : Int) = (m : Int) := by rw [IntKind.wrap_i64] <;> omega
      clear hn hs h1 hA iv hb q1 q2 q3 v1 hkid hfk hAk hkp ek hkn hkb l0 l1 hm
      go_wp2_with (go_at_call 36; refine (unhide HI).mono ?_; rintro e w3 ⟨rfl, ⟨d0, d1, g0, g1⟩, ⟨m0, m1⟩, HE⟩; clear HI)
      go_roundg g
      case measure => omega
      case rel => exact unhide HE
end Go.Proofs.YtlmjmhpdpgeplaaGreatDoor
