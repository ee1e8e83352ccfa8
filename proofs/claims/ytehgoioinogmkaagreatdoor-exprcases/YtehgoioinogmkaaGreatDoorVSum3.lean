/- Contract of value.Do. -/
import Derived.Test.YtehgoioinogmkaaGreatDoorVSum2
namespace Go.Proofs.YtehgoioinogmkaaGreatDoor
open Go.RowKit Go.Lib

set_option maxHeartbeats 6400000 in
theorem do_neg (a b : GV) (w : World) (ha : a.ok) :
    Calls Tryz.prog 119 #[.int .i64 1, a.agg, b.agg] w fun e w' => e = .returned (.tuple #[(doG 1 a b).1.agg, errG (doG 1 a b).2]) ∧ Below w.heap.size w w' := by
  have HA := hide (fun W => is_any a W ha)
  have HB := hide (fun W => is_any a W ha)
  have HO := hide (fun W => oper_any 1 W)
  have HK := hide (fun W => reck_any 1 a.int a.int W ⟨ha.1, ha.2.1⟩ ⟨ha.1, ha.2.1⟩ rfl)
  have HT : Hid (∀ p : GV × Int, doG 1 a b = p → ∀ e : Ending, e = .returned (.tuple #[p.1.agg, errG p.2]) → e = .returned (.tuple #[(doG 1 a b).1.agg, errG (doG 1 a b).2])) := by
    intro p hp e he
    rw [hp]; exact he
  clear ha
  obtain ⟨r, hr⟩ : ∃ r, r = doG 1 a b := ⟨_, rfl⟩
  rw [← hr] at HT ⊢
  unfold doG at hr
  rw [if_pos rfl] at hr
  obtain ⟨k, n, t⟩ := a
  obtain ⟨k', n', t'⟩ := b
  rw [GV.agg_eq] at HA
  rw [GV.agg_eq] at HB
  rw [GV.agg_eq, GV.agg_eq]
  dsimp only at hr HK
  rw [show operG 1 = 2 from rfl] at *
  generalize GV.may ⟨k, n, t⟩ = ma at *
  cases ma with
  | false =>
    rw [if_pos (.inr (.inl rfl))] at hr
    have HR := hide hr
    clear hr
    go_enter Tryz.func119, Tryz.ntmps119
    go_wp2_with (first
      | (go_at_call 168; refine (unhide HO _).mono ?_; clear HO; rintro e w0 ⟨rfl, rfl⟩)
      | (go_at_call 117; refine (unhide HA _).mono ?_; clear HA; rintro e w1 ⟨rfl, hb1⟩; have BA := hide ((((B3.new w w.heap.size k n t rfl).alloc _).alloc _).after hb1); have BB := hide (((B3.new _ (w.heap.size + 1) k n t (by simp)).alloc _).after hb1); have BZ := hide ((B3.new _ (w.heap.size + 1 + 1) 0 0 _ (by simp)).after hb1); obtain ⟨c0, c1, c2, _, _, _⟩ := unhide BA; obtain ⟨d0, d1, d2, _, _, _⟩ := unhide BB; obtain ⟨z0, z1, z2, g0, g1, g2⟩ := unhide BZ))
    refine bodyPost_ret (v := .tuple #[.agg #[.int .i64 0, .int .i64 0, .string ⟨#[]⟩], .iface 102 (.int .i64 20)]) ?_ rfl ⟨unhide HT _ (unhide HR) _ rfl, ?_⟩
    · rw [results_cell_tmp rfl]
      go_simp
    · have q0 : Below w.heap.size w w1 := three_below hb1
      repeat' (first | exact q0 | refine Below.setCell ?_ (by first | omega | (simp; done) | (simp; omega)) _)
  | true =>
    rw [if_neg (by simp)] at hr
    by_cases k0 : k = 0
    · subst k0
      rw [if_pos (.inl rfl)] at hr
      have HR := hide hr
      clear hr
      go_enter Tryz.func119, Tryz.ntmps119
      go_wp2_with (first
        | (go_at_call 168; refine (unhide HO _).mono ?_; clear HO; rintro e w0 ⟨rfl, rfl⟩)
        | (go_at_call 117; refine (unhide HA _).mono ?_; clear HA; rintro e w1 ⟨rfl, hb1⟩; have BA := hide ((((B3.new w w.heap.size 0 n t rfl).alloc _).alloc _).after hb1); have BB := hide (((B3.new _ (w.heap.size + 1) 0 n t (by simp)).alloc _).after hb1); have BZ := hide ((B3.new _ (w.heap.size + 1 + 1) 0 0 _ (by simp)).after hb1); obtain ⟨c0, c1, c2, _, _, _⟩ := unhide BA; obtain ⟨d0, d1, d2, _, _, _⟩ := unhide BB; obtain ⟨z0, z1, z2, g0, g1, g2⟩ := unhide BZ)
        | (go_at_call 117; refine (unhide HB _).mono ?_; clear HB; clear c0 c1 c2 d0 d1 d2 z0 z1 z2 g0 g1 g2; rintro e w2 ⟨rfl, hb2⟩; obtain ⟨c0, c1, c2, _, _, _⟩ := (unhide BA).after hb2; obtain ⟨d0, d1, d2, _, _, _⟩ := (unhide BB).after hb2; have BZ2 := hide ((unhide BZ).after hb2); obtain ⟨z0, z1, z2, g0, g1, g2⟩ := unhide BZ2))
      refine bodyPost_ret (v := .tuple #[.agg #[.int .i64 0, .int .i64 0, .string ⟨#[]⟩], .nilIface]) ?_ rfl ⟨unhide HT _ (unhide HR) _ rfl, ?_⟩
      · rw [results_cell_tmp rfl]
        go_simp
      · have q0 : Below w.heap.size w w2 := (three_below hb1).trans (hb2.mono (three_below hb1).size)
        repeat' (first | exact q0 | refine Below.setCell ?_ (by first | omega | (simp; done) | (simp; omega)) _)
    rw [if_neg (by omega)] at hr
    have e0 : (k == 0) = false := by simpa using k0
    by_cases kK : k = 2
    · subst kK
      rw [if_neg (by simp), if_neg (by decide)] at hr
      generalize reckG 1 n n = J at *
      obtain ⟨jn, jc⟩ := J
      have HK2 := HK
      clear HK
      dsimp only at hr HK2
      by_cases hc : jc = 0
      · subst hc
        rw [if_pos rfl] at hr
        rw [errG_nil] at HK2
        have HR := hide hr
        clear hr
        go_enter Tryz.func119, Tryz.ntmps119
        go_wp2_with (first
          | (go_at_call 168; refine (unhide HO _).mono ?_; clear HO; rintro e w0 ⟨rfl, rfl⟩)
          | (go_at_call 117; refine (unhide HA _).mono ?_; clear HA; rintro e w1 ⟨rfl, hb1⟩; have BA := hide ((((B3.new w w.heap.size 2 n t rfl).alloc _).alloc _).after hb1); have BB := hide (((B3.new _ (w.heap.size + 1) 2 n t (by simp)).alloc _).after hb1); have BZ := hide ((B3.new _ (w.heap.size + 1 + 1) 0 0 _ (by simp)).after hb1); obtain ⟨c0, c1, c2, _, _, _⟩ := unhide BA; obtain ⟨d0, d1, d2, _, _, _⟩ := unhide BB; obtain ⟨z0, z1, z2, g0, g1, g2⟩ := unhide BZ)
          | (go_at_call 117; refine (unhide HB _).mono ?_; clear HB; clear c0 c1 c2 d0 d1 d2 z0 z1 z2 g0 g1 g2; rintro e w2 ⟨rfl, hb2⟩; obtain ⟨c0, c1, c2, _, _, _⟩ := (unhide BA).after hb2; obtain ⟨d0, d1, d2, _, _, _⟩ := (unhide BB).after hb2; have BZ2 := hide ((unhide BZ).after hb2); obtain ⟨z0, z1, z2, g0, g1, g2⟩ := unhide BZ2)
          | (go_at_call 170; refine (unhide HK2 _).mono ?_; clear HK2; rintro e w3 ⟨rfl, rfl⟩))
        refine bodyPost_ret (v := .tuple #[.agg #[.int .i64 2, .int .i64 jn, .string ⟨#[]⟩], .nilIface]) ?_ rfl ⟨unhide HT _ (unhide HR) _ rfl, ?_⟩
        · rw [results_cell_tmp rfl]
          go_simp
        · have q0 : Below w.heap.size w w3 := (three_below hb1).trans (hb2.mono (three_below hb1).size)
          repeat' (first | exact q0 | refine Below.setCell ?_ (by first | omega | (simp; done) | (simp; omega)) _)
      · rw [if_neg hc] at hr
        rw [errG_some hc] at HK2
        have HT' : Hid (∀ e : Ending, e = .returned (.tuple #[nullG.agg, .iface 102 (.int .i64 jc)]) → e = .returned (.tuple #[r.1.agg, errG r.2])) := fun e he => unhide HT _ hr _ (by rw [he]; dsimp only; rw [errG_some hc])
        clear hc HT
        have HR := hide hr
        clear hr
        go_enter Tryz.func119, Tryz.ntmps119
        clear HR
        go_wp2_with (first
          | (go_at_call 168; refine (unhide HO _).mono ?_; clear HO; rintro e w0 ⟨rfl, rfl⟩)
          | (go_at_call 117; refine (unhide HA _).mono ?_; clear HA; rintro e w1 ⟨rfl, hb1⟩; have BA := hide ((((B3.new w w.heap.size 2 n t rfl).alloc _).alloc _).after hb1); have BB := hide (((B3.new _ (w.heap.size + 1) 2 n t (by simp)).alloc _).after hb1); have BZ := hide ((B3.new _ (w.heap.size + 1 + 1) 0 0 _ (by simp)).after hb1); obtain ⟨c0, c1, c2, _, _, _⟩ := unhide BA; obtain ⟨d0, d1, d2, _, _, _⟩ := unhide BB; obtain ⟨z0, z1, z2, g0, g1, g2⟩ := unhide BZ)
          | (go_at_call 117; refine (unhide HB _).mono ?_; clear HB; clear c0 c1 c2 d0 d1 d2 z0 z1 z2 g0 g1 g2; rintro e w2 ⟨rfl, hb2⟩; obtain ⟨c0, c1, c2, _, _, _⟩ := (unhide BA).after hb2; obtain ⟨d0, d1, d2, _, _, _⟩ := (unhide BB).after hb2; have BZ2 := hide ((unhide BZ).after hb2); obtain ⟨z0, z1, z2, g0, g1, g2⟩ := unhide BZ2)
          | (go_at_call 170; refine (unhide HK2 _).mono ?_; clear HK2; rintro e w3 ⟨rfl, rfl⟩))
        refine bodyPost_ret (v := .tuple #[.agg #[.int .i64 0, .int .i64 0, .string ⟨#[]⟩], .iface 102 (.int .i64 jc)]) ?_ rfl ⟨unhide HT' _ rfl, ?_⟩
        · rw [results_cell_tmp rfl]
          go_simp
        · have q0 : Below w.heap.size w w3 := (three_below hb1).trans (hb2.mono (three_below hb1).size)
          repeat' (first | exact q0 | refine Below.setCell ?_ (by first | omega | (simp; done) | (simp; omega)) _)
    · rw [if_pos (.inl kK)] at hr
      have eK : (k != 2) = true := by simpa using kK
      have HR := hide hr
      clear hr
      go_enter Tryz.func119, Tryz.ntmps119
      go_wp2_with (first
        | (go_at_call 168; refine (unhide HO _).mono ?_; clear HO; rintro e w0 ⟨rfl, rfl⟩)
        | (go_at_call 117; refine (unhide HA _).mono ?_; clear HA; rintro e w1 ⟨rfl, hb1⟩; have BA := hide ((((B3.new w w.heap.size k n t rfl).alloc _).alloc _).after hb1); have BB := hide (((B3.new _ (w.heap.size + 1) k n t (by simp)).alloc _).after hb1); have BZ := hide ((B3.new _ (w.heap.size + 1 + 1) 0 0 _ (by simp)).after hb1); obtain ⟨c0, c1, c2, _, _, _⟩ := unhide BA; obtain ⟨d0, d1, d2, _, _, _⟩ := unhide BB; obtain ⟨z0, z1, z2, g0, g1, g2⟩ := unhide BZ)
        | (go_at_call 117; refine (unhide HB _).mono ?_; clear HB; clear c0 c1 c2 d0 d1 d2 z0 z1 z2 g0 g1 g2; rintro e w2 ⟨rfl, hb2⟩; obtain ⟨c0, c1, c2, _, _, _⟩ := (unhide BA).after hb2; obtain ⟨d0, d1, d2, _, _, _⟩ := (unhide BB).after hb2; have BZ2 := hide ((unhide BZ).after hb2); obtain ⟨z0, z1, z2, g0, g1, g2⟩ := unhide BZ2))
      refine bodyPost_ret (v := .tuple #[.agg #[.int .i64 0, .int .i64 0, .string ⟨#[]⟩], .iface 102 (.int .i64 4)]) ?_ rfl ⟨unhide HT _ (unhide HR) _ rfl, ?_⟩
      · rw [results_cell_tmp rfl]
        go_simp
      · have q0 : Below w.heap.size w w2 := (three_below hb1).trans (hb2.mono (three_below hb1).size)
        repeat' (first | exact q0 | refine Below.setCell ?_ (by first | omega | (simp; done) | (simp; omega)) _)
theorem do_any (op : Int) (a b : GV) (w : World) (ha : a.ok) (hb : op = 1 ∨ b.ok) :
    Calls Tryz.prog 119 #[.int .i64 op, a.agg, b.agg] w fun e w' => e = .returned (.tuple #[(doG op a b).1.agg, errG (doG op a b).2]) ∧ Below w.heap.size w w' := by
  by_cases h : op = 1
  · subst h; exact do_neg a b w ha
  · exact do_two op a b w ha (hb.resolve_left h) h
end Go.Proofs.YtehgoioinogmkaaGreatDoor
