/- Contract of value.Do. -/
import Derived.Test.YtehgoioinogmkaaGreatDoorVSum2
import Derived.Test.YtehgoioinogmkaaGreatDoorJVOrdVIs
import Derived.Test.YtehgoioinogmkaaGreatDoorRows
import Derived.ProofKit
import Derived.LaidMore
import Derived.LaidHandle
import Derived.LaidLaws
import Derived.OpenShut
import Derived.Stop.Joined
namespace Go.Proofs.YtehgoioinogmkaaGreatDoor
open Go.RowKit Go.Lib

set_option maxHeartbeats 6400000 in
theorem do_neg (a b : GV) (w : World) (ha : a.ok) :
    Calls Tryz.prog 119 #[.int .i64 1, a.agg, b.agg] w fun e w' => e = .returned (.tuple #[(doG 1 a b).1.agg, errG (doG 1 a b).2]) ∧ Below w.heap.size w w' := by
  have HA := hide (fun W => is_any a W ha)
  have HB := hide (fun W => is_any a W ha)
  have HO := hide (fun W => oper_any 1 W)
  have HK := hide (fun W => reck_any 1 a.int a.int W ⟨ha.1, ha.2.1⟩ ⟨ha.1, ha.2.1⟩ rfl)
  have HT : Hid (∀ p : GV × Int, doG 1 a b = p → ∀ e : Ending, e = .returned (.tuple #[p.1.agg, errG p.2]) → e = .returned (.tuple #[(doG 1 a b).1.agg, errG (doG 1 a b).2])) := by
    intro p hp e he
    rw [hp]; exact he
  clear ha
  obtain ⟨r, hr⟩ : ∃ r, r = doG 1 a b := ⟨_, rfl⟩
  rw [← hr] at HT ⊢
  unfold doG at hr
  rw [if_pos rfl] at hr
  obtain ⟨k, n, t⟩ := a
  obtain ⟨k', n', t'⟩ := b
  rw [GV.agg_eq] at HA
  rw [GV.agg_eq] at HB
  rw [GV.agg_eq, GV.agg_eq]
  dsimp only at hr HK
  rw [show operG 1 = 2 from rfl] at *
  generalize GV.may ⟨k, n, t⟩ = ma at *
  cases ma with
  | false =>
    rw [if_pos (.inr (.inl rfl))] at hr
    have HR := hide hr
    clear hr
    go_enter Tryz.func119, Tryz.ntmps119
    go_wp2_with (first
      | (go_at_call 168; refine (unhide HO _).mono ?_; clear HO; rintro e w0 ⟨rfl, rfl⟩)
      | (go_at_call 117; refine (unhide HA _).mono ?_; clear HA; rintro e w1 ⟨rfl, hb1⟩; have BA := hide ((((B3.new w w.heap.size k n t rfl).alloc _).alloc _).after hb1); have BB := hide (((B3.new _ (w.heap.size + 1) k n t (by simp)).alloc _).after hb1); have BZ := hide ((B3.new _ (w.heap.size + 1 + 1) 0 0 _ (by simp)).after hb1); obtain ⟨c0, c1, c2, _, _, _⟩ := unhide BA; obtain ⟨d0, d1, d2, _, _, _⟩ := unhide BB; obtain ⟨z0, z1, z2, g0, g1, g2⟩ := unhide BZ))
    refine bodyPost_ret (v := .tuple #[.agg #[.int .i64 0, .int .i64 0, .string ⟨#[]⟩], .iface 102 (.int .i64 20)]) ?_ rfl ⟨unhide HT _ (unhide HR) _ rfl, ?_⟩
    · rw [results_cell_tmp rfl]
      go_simp
    · have q0 : Below w.heap.size w w1 := three_below hb1
      repeat' (first | exact q0 | refine Below.setCell ?_ (by first | omega | (simp; done) | (simp; omega)) _)
  | true =>
    rw [if_neg (by simp)] at hr
    by_cases k0 : k = 0
    · subst k0
      rw [if_pos (.inl rfl)] at hr
      have HR := hide hr
      clear hr
      go_enter Tryz.func119, Tryz.ntmps119
      go_wp2_with (first
        | (go_at_call 168; refine (unhide HO _).mono ?_; clear HO; rintro e w0 ⟨rfl, rfl⟩)
        | (go_at_call 117; refine (unhide HA _).mono ?_; clear HA; rintro e w1 ⟨rfl, hb1⟩; have BA := hide ((((B3.new w w.heap.size 0 n t rfl).alloc _).alloc _).after hb1); have BB := hide (((B3.new _ (w.heap.size + 1) 0 n t (by simp)).alloc _).after hb1); have BZ := hide ((B3.new _ (w.heap.size + 1 + 1) 0 0 _ (by simp)).after hb1); obtain ⟨c0, c1, c2, _, _, _⟩ := unhide BA; obtain ⟨d0, d1, d2, _, _, _⟩ := unhide BB; obtain ⟨z0, z1, z2, g0, g1, g2⟩ := unhide BZ)
        | (go_at_call 117; refine (unhide HB _).mono ?_; clear HB; clear c0 c1 c2 d0 d1 d2 z0 z1 z2 g0 g1 g2; rintro e w2 ⟨rfl, hb2⟩; obtain ⟨c0, c1, c2, _, _, _⟩ := (unhide BA).after hb2; obtain ⟨d0, d1, d2, _, _, _⟩ := (unhide BB).after hb2; have BZ2 := hide ((unhide BZ).after hb2); obtain ⟨z0, z1, z2, g0, g1, g2⟩ := unhide BZ2))
      refine bodyPost_ret (v := .tuple #[.agg #[.int .i64 0, .int .i64 0, .string ⟨#[]⟩], .nilIface]) ?_ rfl ⟨unhide HT _ (unhide HR) _ rfl, ?_⟩
      · rw [results_cell_tmp rfl]
        go_simp
      · have q0 : Below w.heap.size w w2 := (three_below hb1).trans (hb2.mono (three_below hb1).size)
        repeat' (first | exact q0 | refine Below.setCell ?_ (by first | omega | (simp; done) | (simp; omega)) _)
    rw [if_neg (by omega)] at hr
    have e0 : (k == 0) = false := by simpa using k0
    by_cases kK : k = 2
    · subst kK
      rw [if_neg (by simp), if_neg (by decide)] at hr
      generalize reckG 1 n n = J at *
      obtain ⟨jn, jc⟩ := J
      have HK2 := HK
      clear HK
      dsimp only at hr HK2
      by_cases hc : jc = 0
      · subst hc
        rw [if_pos rfl] at hr
        rw [errG_nil] at HK2
        have HR := hide hr
        clear hr
        go_enter Tryz.func119, Tryz.ntmps119
        go_wp2_with (first
          | (go_at_call 168; refine (unhide HO _).mono ?_; clear HO; rintro e w0 ⟨rfl, rfl⟩)
          | (go_at_call 117; refine (unhide HA _).mono ?_; clear HA; rintro e w1 ⟨rfl, hb1⟩; have BA := hide ((((B3.new w w.heap.size 2 n t rfl).alloc _).alloc _).after hb1); have BB := hide (((B3.new _ (w.heap.size + 1) 2 n t (by simp)).alloc _).after hb1); have BZ := hide ((B3.new _ (w.heap.size + 1 + 1) 0 0 _ (by simp)).after hb1); obtain ⟨c0, c1, c2, _, _, _⟩ := unhide BA; obtain ⟨d0, d1, d2, _, _, _⟩ := unhide BB; obtain ⟨z0, z1, z2, g0, g1, g2⟩ := unhide BZ)
          | (go_at_call 117; refine (unhide HB _).mono ?_; clear HB; clear c0 c1 c2 d0 d1 d2 z0 z1 z2 g0 g1 g2; rintro e w2 ⟨rfl, hb2⟩; obtain ⟨c0, c1, c2, _, _, _⟩ := (unhide BA).after hb2; obtain ⟨d0, d1, d2, _, _, _⟩ := (unhide BB).after hb2; have BZ2 := hide ((unhide BZ).after hb2); obtain ⟨z0, z1, z2, g0, g1, g2⟩ := unhide BZ2)
          | (go_at_call 170; refine (unhide HK2 _).mono ?_; clear HK2; rintro e w3 ⟨rfl, rfl⟩))
        refine bodyPost_ret (v := .tuple #[.agg #[.int .i64 2, .int .i64 jn, .string ⟨#[]⟩], .nilIface]) ?_ rfl ⟨unhide HT _ (unhide HR) _ rfl, ?_⟩
        · rw [results_cell_tmp rfl]
          go_simp
        · have q0 : Below w.heap.size w w3 := (three_below hb1).trans (hb2.mono (three_below hb1).size)
          repeat' (first | exact q0 | refine Below.setCell ?_ (by first | omega | (simp; done) | (simp; omega)) _)
      · rw [if_neg hc] at hr
        rw [errG_some hc] at HK2
        have HT' : Hid (∀ e : Ending, e = .returned (.tuple #[nullG.agg, .iface 102 (.int .i64 jc)]) → e = .returned (.tuple #[r.1.agg, errG r.2])) := fun e he => unhide HT _ hr _ (by rw [he]; dsimp only; rw [errG_some hc])
        clear hc HT
        have HR := hide hr
        clear hr
        go_enter Tryz.func119, Tryz.ntmps119
        clear HR
        go_wp2_with (first
          | (go_at_call 168; refine (unhide HO _).mono ?_; clear HO; rintro e w0 ⟨rfl, rfl⟩)
          | (go_at_call 117; refine (unhide HA _).mono ?_; clear HA; rintro e w1 ⟨rfl, hb1⟩; have BA := hide ((((B3.new w w.heap.size 2 n t rfl).alloc _).alloc _).after hb1); have BB := hide (((B3.new _ (w.heap.size + 1) 2 n t (by simp)).alloc _).after hb1); have BZ := hide ((B3.new _ (w.heap.size + 1 + 1) 0 0 _ (by simp)).after hb1); obtain ⟨c0, c1, c2, _, _, _⟩ := unhide BA; obtain ⟨d0, d1, d2, _, _, _⟩ := unhide BB; obtain ⟨z0, z1, z2, g0, g1, g2⟩ := unhide BZ)
          | (go_at_call 117; refine (unhide HB _).mono ?_; clear HB; clear c0 c1 c2 d0 d1 d2 z0 z1 z2 g0 g1 g2; rintro e w2 ⟨rfl, hb2⟩; obtain ⟨c0, c1, c2, _, _, _⟩ := (unhide BA).after hb2; obtain ⟨d0, d1, d2, _, _, _⟩ := (unhide BB).after hb2; have BZ2 := hide ((unhide BZ).after hb2); obtain ⟨z0, z1, z2, g0, g1, g2⟩ := unhide BZ2)
          | (go_at_call 170; refine (unhide HK2 _).mono ?_; clear HK2; rintro e w3 ⟨rfl, rfl⟩))
        refine bodyPost_ret (v := .tuple #[.agg #[.int .i64 0, .int .i64 0, .string ⟨#[]⟩], .iface 102 (.int .i64 jc)]) ?_ rfl ⟨unhide HT' _ rfl, ?_⟩
        · rw [results_cell_tmp rfl]
          go_simp
        · have q0 : Below w.heap.size w w3 := (three_below hb1).trans (hb2.mono (three_below hb1).size)
          repeat' (first | exact q0 | refine Below.setCell ?_ (by first | omega | (simp; done) | (simp; omega)) _)
    · rw [if_pos (.inl kK)] at hr
      have eK : (k != 2) = true := by simpa using kK
      have HR := hide hr
      clear hr
      go_enter Tryz.func119, Tryz.ntmps119
      go_wp2_with (first
        | (go_at_call 168; refine (unhide HO _).mono ?_; clear HO; rintro e w0 ⟨rfl, rfl⟩)
        | (go_at_call 117; refine (unhide HA _).mono ?_; clear HA; rintro e w1 ⟨rfl, hb1⟩; have BA := hide ((((B3.new w w.heap.size k n t rfl).alloc _).alloc _).after hb1); have BB := hide (((B3.new _ (w.heap.size + 1) k n t (by simp)).alloc _).after hb1); have BZ := hide ((B3.new _ (w.heap.size + 1 + 1) 0 0 _ (by simp)).after hb1); obtain ⟨c0, c1, c2, _, _, _⟩ := unhide BA; obtain ⟨d0, d1, d2, _, _, _⟩ := unhide BB; obtain ⟨z0, z1, z2, g0, g1, g2⟩ := unhide BZ)
        | (go_at_call 117; refine (unhide HB _).mono ?_; clear HB; clear c0 c1 c2 d0 d1 d2 z0 z1 z2 g0 g1 g2; rintro e w2 ⟨rfl, hb2⟩; obtain ⟨c0, c1, c2, _, _, _⟩ := (unhide BA).after hb2; obtain ⟨d0, d1, d2, _, _, _⟩ := (unhide BB).after hb2; have BZ2 := hide ((unhide BZ).after hb2); obtain ⟨z0, z1, z2, g0, g1, g2⟩ := unhide BZ2))
      refine bodyPost_ret (v := .tuple #[.agg #[.int .i64 0, .int .i64 0, .string ⟨#[]⟩], .iface 102 (.int .i64 4)]) ?_ rfl ⟨unhide HT _ (unhide HR) _ rfl, ?_⟩
      · rw [results_cell_tmp rfl]
        go_simp
      · have q0 : Below w.heap.size w w2 := (three_below hb1).trans (hb2.mono (three_below hb1).size)
        repeat' (first | exact q0 | refine Below.setCell ?_ (by first | omega | (simp; done) | (simp; omega)) _)
theorem do_any (op : Int) (a b : GV) (w : World) (ha : a.ok) (hb : op = 1 ∨ b.ok) :
    Calls Tryz.prog 119 #[.int .i64 op, a.agg, b.agg] w fun e w' => e = .returned (.tuple #[(doG op a b).1.agg, errG (doG op a b).2]) ∧ Below w.heap.size w w' := by
  by_cases h : op = 1
  · subst h; exact do_neg a b w ha
  · exact do_two op a b w ha (hb.resolve_left h) h
end Go.Proofs.YtehgoioinogmkaaGreatDoor
/- Contract of value.Test. -/
namespace Go.Proofs.YtehgoioinogmkaaGreatDoor
open Go.RowKit Go.Lib

theorem two_below2 {w w1 : World} {o o' : Obj} (h : Below ((w.alloc o).alloc o').heap.size ((w.alloc o).alloc o') w1) : Below w.heap.size w w1 :=
  (((Below.refl _ _).alloc (Nat.le_refl _) _).alloc (by simp) _).trans (h.mono (by simp <;> omega))
theorem two_only {w : World} {o o' : Obj} : Below w.heap.size w ((w.alloc o).alloc o') := ((Below.refl _ _).alloc (Nat.le_refl _) _).alloc (by simp) _
theorem ret_tc {x y : Int} {c d : Int} (h : (x, c) = (y, d)) : Ending.returned (.tuple #[.int .i64 y, errG d]) = .returned (.tuple #[.int .i64 x, errG c]) := by
  injection h with h1 h2
  subst h1 h2
  rfl

set_option maxHeartbeats 3200000 in
theorem test_any (op : Int) (a b : GV) (w : World) (ha : a.ok) (hb : b.ok) :
    Calls Tryz.prog 125 #[.int .i64 op, a.agg, b.agg] w fun e w' => e = .returned (.tuple #[.int .i64 (testG op a b).1, errG (testG op a b).2]) ∧ Below w.heap.size w w' := by
  have HA := hide (fun W => is_any a W ha)
  have HB := hide (fun W => is_any b W hb)
  have HC := hide (fun W => csound_any a b W)
  have HH := hide (fun W => holds_any op (cmpG a b) W (cmpG_cmp.range a b))
  have HT : Hid (∀ p : Int × Int, testG op a b = p → ∀ e : Ending, e = .returned (.tuple #[.int .i64 p.1, errG p.2]) → e = .returned (.tuple #[.int .i64 (testG op a b).1, errG (testG op a b).2])) := by
    intro p hp e he
    rw [hp]; exact he
  clear ha hb
  obtain ⟨r, hr⟩ : ∃ r, r = testG op a b := ⟨_, rfl⟩
  rw [← hr] at HT ⊢
  unfold testG at hr
  generalize cmpG a b = c at *
  obtain ⟨k, n, t⟩ := a
  obtain ⟨k', n', t'⟩ := b
  rw [GV.agg_eq] at HA
  rw [GV.agg_eq] at HB
  rw [GV.agg_eq, GV.agg_eq] at HC ⊢
  dsimp only at hr
  generalize GV.may ⟨k, n, t⟩ = ma at *
  generalize GV.may ⟨k', n', t'⟩ = mb at *
  generalize holdsG op c = hh at *
  by_cases h5 : op < 5
  · rw [if_pos (.inl h5)] at hr
    have HR := hide hr
    clear hr
    go_enter Tryz.func125, Tryz.ntmps125
    go_wp2
    go_ret2
    exact ⟨unhide HT _ (unhide HR) _ rfl, two_only⟩
  by_cases h10 : 10 < op
  · rw [if_pos (.inr (.inl h10))] at hr
    have HR := hide hr
    clear hr
    go_enter Tryz.func125, Tryz.ntmps125
    go_wp2
    go_ret2
    exact ⟨unhide HT _ (unhide HR) _ rfl, two_only⟩
  cases ma with
  | false =>
    rw [if_pos (.inr (.inr (.inl rfl)))] at hr
    have HR := hide hr
    clear hr
    go_enter Tryz.func125, Tryz.ntmps125
    go_wp2_with (first
      | (go_at_call 117; refine (unhide HA _).mono ?_; clear HA; rintro e w1 ⟨rfl, hb1⟩))
    go_ret2
    exact ⟨unhide HT _ (unhide HR) _ rfl, two_below2 hb1⟩
  | true =>
    cases mb with
    | false =>
      rw [if_pos (.inr (.inr (.inr rfl)))] at hr
      have HR := hide hr
      clear hr
      go_enter Tryz.func125, Tryz.ntmps125
      go_wp2_with (first
        | (go_at_call 117; refine (unhide HA _).mono ?_; clear HA; rintro e w1 ⟨rfl, hb1⟩; obtain ⟨d0, d1, d2, _, _, _⟩ := (B3.new _ (w.heap.size + 1) k' n' t' (by simp)).after hb1)
        | (go_at_call 117; refine (unhide HB _).mono ?_; rintro e w2 ⟨rfl, hb2⟩))
      go_ret2
      have q1 := two_below2 hb1
      exact ⟨unhide HT _ (unhide HR) _ rfl, q1.trans (hb2.mono q1.size)⟩
    | true =>
      rw [if_neg (by simp; omega)] at hr
      by_cases k0 : k = 0
      · subst k0
        rw [if_pos (.inl rfl)] at hr
        have HR := hide hr
        clear hr
        go_enter Tryz.func125, Tryz.ntmps125
        go_wp2_with (first
          | (go_at_call 117; refine (unhide HA _).mono ?_; clear HA; rintro e w1 ⟨rfl, hb1⟩; have BA := hide (((B3.new w w.heap.size 0 n t rfl).alloc _).after hb1); have BB := hide ((B3.new _ (w.heap.size + 1) k' n' t' (by simp)).after hb1); obtain ⟨d0, d1, d2, _, _, _⟩ := unhide BB)
          | (go_at_call 117; refine (unhide HB _).mono ?_; rintro e w2 ⟨rfl, hb2⟩; obtain ⟨x0, x1, x2, _, _, _⟩ := (unhide BA).after hb2; obtain ⟨y0, y1, y2, _, _, _⟩ := (unhide BB).after hb2))
        go_ret2
        have q1 := two_below2 hb1
        exact ⟨unhide HT _ (unhide HR) _ rfl, q1.trans (hb2.mono q1.size)⟩
      by_cases k0' : k' = 0
      · subst k0'
        rw [if_pos (.inr rfl)] at hr
        have e0 : (k == 0) = false := by simpa using k0
        have HR := hide hr
        clear hr
        go_enter Tryz.func125, Tryz.ntmps125
        go_wp2_with (first
          | (go_at_call 117; refine (unhide HA _).mono ?_; clear HA; rintro e w1 ⟨rfl, hb1⟩; have BA := hide (((B3.new w w.heap.size k n t rfl).alloc _).after hb1); have BB := hide ((B3.new _ (w.heap.size + 1) 0 n' t' (by simp)).after hb1); obtain ⟨d0, d1, d2, _, _, _⟩ := unhide BB)
          | (go_at_call 117; refine (unhide HB _).mono ?_; rintro e w2 ⟨rfl, hb2⟩; obtain ⟨x0, x1, x2, _, _, _⟩ := (unhide BA).after hb2; obtain ⟨y0, y1, y2, _, _, _⟩ := (unhide BB).after hb2))
        go_ret2
        have q1 := two_below2 hb1
        exact ⟨unhide HT _ (unhide HR) _ rfl, q1.trans (hb2.mono q1.size)⟩
      rw [if_neg (by omega)] at hr
      have e0 : (k == 0) = false := by simpa using k0
      have e0' : (k' == 0) = false := by simpa using k0'
      by_cases hk : k = k'
      · subst hk
        rw [if_neg (by simp)] at hr
        have en : (k != k) = false := by simp
        cases hh with
        | true =>
          rw [if_pos rfl] at hr
          have HR := hide hr
          clear hr
          go_enter Tryz.func125, Tryz.ntmps125
          go_wp2_with (first
            | (go_at_call 117; refine (unhide HA _).mono ?_; clear HA; rintro e w1 ⟨rfl, hb1⟩; have BA := hide (((B3.new w w.heap.size k n t rfl).alloc _).after hb1); have BB := hide ((B3.new _ (w.heap.size + 1) k n' t' (by simp)).after hb1); obtain ⟨d0, d1, d2, _, _, _⟩ := unhide BB)
            | (go_at_call 117; refine (unhide HB _).mono ?_; rintro e w2 ⟨rfl, hb2⟩; obtain ⟨x0, x1, x2, _, _, _⟩ := (unhide BA).after hb2; obtain ⟨y0, y1, y2, _, _, _⟩ := (unhide BB).after hb2)
            | (go_at_call 173; refine (unhide HC _).mono ?_; rintro e w3 ⟨rfl, hb3⟩)
            | (go_at_call 172; refine (unhide HH _).mono ?_; rintro e w4 ⟨rfl, rfl⟩))
          go_ret2
          have q1 := two_below2 hb1
          have q2 := q1.trans (hb2.mono q1.size)
          exact ⟨unhide HT _ (unhide HR) _ rfl, q2.trans (hb3.mono q2.size)⟩
        | false =>
          rw [if_neg (by simp)] at hr
          have HR := hide hr
          clear hr
          go_enter Tryz.func125, Tryz.ntmps125
          go_wp2_with (first
            | (go_at_call 117; refine (unhide HA _).mono ?_; clear HA; rintro e w1 ⟨rfl, hb1⟩; have BA := hide (((B3.new w w.heap.size k n t rfl).alloc _).after hb1); have BB := hide ((B3.new _ (w.heap.size + 1) k n' t' (by simp)).after hb1); obtain ⟨d0, d1, d2, _, _, _⟩ := unhide BB)
            | (go_at_call 117; refine (unhide HB _).mono ?_; rintro e w2 ⟨rfl, hb2⟩; obtain ⟨x0, x1, x2, _, _, _⟩ := (unhide BA).after hb2; obtain ⟨y0, y1, y2, _, _, _⟩ := (unhide BB).after hb2)
            | (go_at_call 173; refine (unhide HC _).mono ?_; rintro e w3 ⟨rfl, hb3⟩)
            | (go_at_call 172; refine (unhide HH _).mono ?_; rintro e w4 ⟨rfl, rfl⟩))
          go_ret2
          have q1 := two_below2 hb1
          have q2 := q1.trans (hb2.mono q1.size)
          exact ⟨unhide HT _ (unhide HR) _ rfl, q2.trans (hb3.mono q2.size)⟩
      · rw [if_pos hk] at hr
        have en : (k != k') = true := by simpa using hk
        have HR := hide hr
        clear hr
        go_enter Tryz.func125, Tryz.ntmps125
        go_wp2_with (first
          | (go_at_call 117; refine (unhide HA _).mono ?_; clear HA; rintro e w1 ⟨rfl, hb1⟩; have BA := hide (((B3.new w w.heap.size k n t rfl).alloc _).after hb1); have BB := hide ((B3.new _ (w.heap.size + 1) k' n' t' (by simp)).after hb1); obtain ⟨d0, d1, d2, _, _, _⟩ := unhide BB)
          | (go_at_call 117; refine (unhide HB _).mono ?_; rintro e w2 ⟨rfl, hb2⟩; obtain ⟨x0, x1, x2, _, _, _⟩ := (unhide BA).after hb2; obtain ⟨y0, y1, y2, _, _, _⟩ := (unhide BB).after hb2))
        go_ret2
        have q1 := two_below2 hb1
        exact ⟨unhide HT _ (unhide HR) _ rfl, q1.trans (hb2.mono q1.size)⟩
end Go.Proofs.YtehgoioinogmkaaGreatDoor
/- Contracts of the statements' helps: Num, known, Few. -/
namespace Go.Proofs.YtehgoioinogmkaaGreatDoor
open Go.RowKit Go.Lib

set_option maxHeartbeats 1600000 in
theorem num_any (n : Int) (w : World) : Calls Tryz.prog 22 #[.int .i64 n] w fun e w' => e = .returned (.agg #[.int .i64 2, .int .i64 n, .string ⟨#[]⟩]) ∧ w' = w.alloc (.cells #[.int .i64 2, .int .i64 n, .string ⟨#[]⟩] 26) := by
  go_enter Tryz.func22, Tryz.ntmps22
  go_wp2
  refine bodyPost_ret (v := .agg #[.int .i64 2, .int .i64 n, .string ⟨#[]⟩]) ?_ rfl ⟨rfl, rfl⟩
  rw [results_cell1 rfl]
  go_simp

theorem num_ok {n : Int} (h : -9223372036854775808 ≤ n ∧ n < 9223372036854775808) : GV.ok ⟨2, n, ⟨#[]⟩⟩ := ⟨h.1, h.2, show (⟨#[]⟩ : ByteArray).size ≤ maxLen by decide⟩
theorem null_ok : GV.ok ⟨0, 0, ⟨#[]⟩⟩ := ⟨by decide, by decide, by decide⟩
theorem one_step {w a b : World} (h : Below w.heap.size w a) (h' : Below a.heap.size a b) : Below w.heap.size w b := h.trans (h'.mono h.size)
theorem one_new' {w a : World} (h : Below w.heap.size w a) (o : Obj) : Below w.heap.size w (a.alloc o) := h.alloc h.size o
theorem k_div : doG 14 ⟨2, -7, ⟨#[]⟩⟩ ⟨2, 2, ⟨#[]⟩⟩ = (⟨2, -3, ⟨#[]⟩⟩, 0) := by kernel_rfl
theorem k_mod : doG 15 ⟨2, 1, ⟨#[]⟩⟩ ⟨2, 0, ⟨#[]⟩⟩ = (nullG, 7) := by kernel_rfl
theorem k_eq : testG 5 ⟨0, 0, ⟨#[]⟩⟩ ⟨2, 1, ⟨#[]⟩⟩ = (2, 0) := by kernel_rfl
theorem do_at (op : Int) (a b : GV) (k n : Int) (t : ByteArray) (c : Int) (h : doG op a b = (⟨k, n, t⟩, c)) (w : World) (ha : a.ok) (hb : op = 1 ∨ b.ok) :
    Calls Tryz.prog 119 #[.int .i64 op, a.agg, b.agg] w fun e w' => e = .returned (.tuple #[.agg #[.int .i64 k, .int .i64 n, .string t], errG c]) ∧ Below w.heap.size w w' := by
  have := do_any op a b w ha hb
  rw [h] at this
  exact this
theorem test_at (op : Int) (a b : GV) (x c : Int) (h : testG op a b = (x, c)) (w : World) (ha : a.ok) (hb : b.ok) :
    Calls Tryz.prog 125 #[.int .i64 op, a.agg, b.agg] w fun e w' => e = .returned (.tuple #[.int .i64 x, errG c]) ∧ Below w.heap.size w w' := by
  have := test_any op a b w ha hb
  rw [h] at this
  exact this

end Go.Proofs.YtehgoioinogmkaaGreatDoor
/- From the row's condition on the listed variable to the fact that the walks ask. -/
namespace Go.Proofs.YtehgoioinogmkaaGreatDoor
open Go.ChangeShapes Go.WideShapes Go.RowKit Go.Lib

abbrev laid1 : List (String × DataW Unit) := [("errors.errorType", Rows.laid_errors_errorType)]
theorem Tryz.own : ownKnob Tryz.prog.godebug = none := by kernel_rfl
theorem Tryz.et : Tryz.prog.globalNamed "errors.errorType" = some 0 := by kernel_rfl
theorem Tryz.rt : (Tryz.prog.cutTypes.find? (·.1 == "internal/reflectlite.rtype")).map (·.2) = some 218 := by kernel_rfl
theorem Tryz.oneRow : ((List.range 350).filter fun t => Tryz.prog.rowNamed t [101, 114, 114, 111, 114]) = [33] := by kernel_rfl
theorem Tryz.size : Tryz.prog.types.size = 350 := by kernel_rfl

theorem handle_of_laid {W : World} (h : laidMetH Tryz.prog laid1 W) : ET W := by
  have h' : laidMet Tryz.prog [] W ∧ handlesMet Tryz.prog [("errors.errorType", Rows.laid_errors_errorType)] W := h
  obtain ⟨name, u, ty, e1, e2, e3, e4, e5⟩ := h'.2 _ (List.mem_singleton.2 rfl)
  have en : name = [101, 114, 114, 111, 114] := (Option.some.inj e1).symm
  subst en
  obtain rfl := Option.some.inj (Tryz.rt.symm.trans e2)
  have hm : ty ∈ (List.range 350).filter fun t => Tryz.prog.rowNamed t [101, 114, 114, 111, 114] := List.mem_filter.2 ⟨List.mem_range.2 (by rw [← Tryz.size]; exact e3), e4⟩
  rw [Tryz.oneRow] at hm
  obtain rfl := List.mem_singleton.1 hm
  have hh : typeHandle Tryz.prog 33 = .pointer (some ⟨2, 33, none⟩) := by kernel_rfl
  rw [hh] at e5
  unfold ET
  simpa using World.var?_cell Tryz.et e5 0
/-- The door's own heap meets the condition. -/
theorem door_met (os : Os) (args : Array Value) : laidMetH Tryz.prog laid1 ((World.doorLaid Tryz.prog 400 os).forCall (fun _ _ => 0) ⟨#[], args, []⟩).memory :=
  laidMetH_of_parts3 (fuel := 8) (laidMet_of_run' 8 (by kernel_rfl) (by kernel_rfl)) (by kernel_rfl) (by kernel_rfl)
end Go.Proofs.YtehgoioinogmkaaGreatDoor
