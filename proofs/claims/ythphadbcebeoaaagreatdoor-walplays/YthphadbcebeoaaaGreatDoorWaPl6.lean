/- WalPlays: sizes; Sync; a fall. -/
import Derived.Test.YthphadbcebeoaaaGreatDoorJWaPl4WaPl5
namespace Go.Proofs.YthphadbcebeoaaaGreatDoor
open Go.RowKit Go.Lib Go.Maps

theorem runS_many' : ∀ {rs : List Rc} {s s' : Sta}, runS s rs = .ok s' → s'.es.length ≤ s.es.length + rs.length
  | [], s, s', h => by cases h; simp
  | r :: rs, s, s', h => by
    simp only [runS] at h
    cases ht : takeS s r with
    | error c => rw [ht] at h; cases h
    | ok s1 =>
      rw [ht] at h
      have h1 := takeS_len ht
      have h2 := runS_many' h
      rw [List.length_cons]
      omega
theorem runS_many {rs : List Rc} {s : Sta} (h : runS sta0 rs = .ok s) : s.es.length ≤ rs.length := by
  have := runS_many' h
  simpa [sta0] using this
theorem sumX_next {xs : List GStp} {i : Nat} {x : GStp} (h : xs[i]? = some x) : sumX (xs.take (i + 1)) = sumX (xs.take i) + sumE x.es := by
  rw [List.take_add_one, h, sumX_app]
  simp [sumX]
theorem sumX_take {xs : List GStp} (i : Nat) : sumX (xs.take i) ≤ sumX xs := by
  have : sumX xs = sumX (xs.take i) + sumX (xs.drop i) := by rw [← sumX_app, List.take_append_drop]
  omega
section
variable {xs : List GStp} {i : Nat} {x : GStp} {rs rs' : List Rc} {s s' : Sta} {M M' ms : List (Sta × Value)}
theorem SzI.bound (h : SzI xs i rs s M) (hx : xs[i]? = some x) (hS : sumX xs ≤ 12000) (hi : i < 50) : (recsB rs).length + 80 ≤ 32768 ∧ (recsB rs).length + 2 * sumE x.es ≤ 32768 ∧ s.es.length ≤ 800000 ∧ rs.length ≤ 650 ∧ M.length ≤ 651 := by
  have h1 := h.bytes
  have h2 := h.recs
  have h3 := h.ents
  have h4 := h.many
  have h5 := sumX_next hx
  have h6 := sumX_take (xs := xs) (i + 1)
  have h7 := sumX_take (xs := xs) i
  omega
theorem SzI.step (h : SzI xs i rs s M) (hx : xs[i]? = some x) (h1 : rs'.length ≤ rs.length + 12) (h2 : (recsB rs').length ≤ (recsB rs).length + 2 * sumE x.es + 100) (h3 : s'.es.length ≤ s.es.length + 12) (h4 : ms.length ≤ 13) : SzI xs (i + 1) rs' s' (M ++ ms) := by
  have k1 := h.bytes
  have k2 := h.recs
  have k3 := h.ents
  have k4 := h.many
  have k5 := sumX_next hx
  exact ⟨by omega, by omega, by omega, by rw [List.length_append]; omega⟩
theorem SzI.next (h : SzI xs i rs s M) (hx : xs[i]? = some x) (hM : M'.length ≤ 1 + 13 * i) : SzI xs (i + 1) rs s M' := by
  have k1 := h.bytes
  have k2 := h.recs
  have k3 := h.ents
  have k5 := sumX_next hx
  exact ⟨by omega, by omega, by omega, by omega⟩
theorem EOk.app (h : EOk M) (h' : EOk ms) : EOk (M ++ ms) := fun y hy => (List.mem_append.1 hy).elim (h y) (h' y)
end
section
variable {w2 wx w' : World} {p nb xb n ns : Nat} {x : GStp} {vn mv nv : Value} {M ms : List (Sta × Value)} {rs : List Rc} {pr : Bool} {s t : Sta} {S : Dk.St}
theorem PJ.pq (h : PJ w2 wx p nb xb x vn mv nv M ms n rs ns pr s t S) (hxn : nb < xb) : PQ w2 wx p nb xb x vn mv nv M ms n rs ns pr s t S := by
  obtain ⟨O, h1, h2, h3, h4, h5, _⟩ := h
  exact ⟨O, h1, h2, h3, h4, h5, hxn⟩
theorem PQ.less {m : Nat} (h : PQ w2 wx p nb xb x vn mv nv M ms n rs ns pr s t S) (hm : m ≤ n) : PQ w2 wx p nb xb x vn mv nv M ms m rs ns pr s t S := by
  obtain ⟨O, h1, h2⟩ := h
  exact ⟨O, h1.less hm, h2⟩
/-- Sync. -/
theorem pj_sync (h : PJ w2 wx p nb xb x vn mv nv M ms (n + 1) rs ns pr s s S) (hxn : nb < xb) (hon : S.off = false) :
    Calls Tryz.prog 12 #[.pointer (some ⟨p, 0, none⟩)] wx fun e w' => (e = .returned .nilIface ∧ ∃ S', S'.off = false ∧ PQ w2 w' p nb xb x vn mv nv M ms n rs rs.length pr s s S') ∨ (∃ T b, e = .returned (.iface T (.pointer (some ⟨b, 0, none⟩))) ∧ ErrX w' (.iface T (.pointer (some ⟨b, 0, none⟩))) 32 ∧ PQ w2 w' p nb xb x vn mv nv M ms n rs ns pr s s (dn S)) := by
  obtain ⟨O, h1, h2, h3, h4, h5⟩ := h
  refine (ws_sync h1 hon).mono fun e w' ho => ?_
  rcases ho with ⟨S', hS', ho⟩ | ho
  · obtain ⟨rfl, hp⟩ := pj_done h2 h1 h3 h4 h5 ho
    exact .inl ⟨rfl, S', hS', hp.pq hxn⟩
  · obtain ⟨T, b, rfl, he, hp⟩ := pj_bad h2 h1 h3 h4 h5 ho
    exact .inr ⟨T, b, rfl, he, hp.pq hxn⟩
/-- Halt. -/
theorem pj_halt {k : Int} (h : PJ w2 wx p nb xb x vn mv nv M ms n rs ns pr s s S) (hxn : nb < xb) (hk : -9223372036854775808 ≤ k ∧ k < 9223372036854775808) :
    Calls Tryz.prog 23 #[.pointer (some ⟨w2.heap.size, 0, none⟩), .int .i64 k] wx fun e w' => e = .returned (.tuple #[]) ∧ PQ w2 w' p nb xb x vn mv nv M ms n rs ns pr s s { S with halting := decide (0 ≤ k), left := k } := by
  obtain ⟨O, h1, h2, h3, h4, h5, _⟩ := h
  refine (ws_halt h1 hk).mono fun e w' ⟨e1, e2, e3⟩ => ⟨e1, O, e2, h2.trans (fro_below e3 h1.bo h2.size), h3.fro e3 (fun k hk => .inl hk), h4.fro e3 (fun k hk => .inl hk), h5, hxn⟩
/-- The state now alone may be. -/
theorem PQ.alone (h : PQ w2 wx p nb xb x vn mv nv M ms n rs ns pr s t S) : PQ w2 (wx.alloc (.cells #[.int .u64 (t.term : Int), .int .i64 ((t.vote : Int) - 1), .int .u64 (t.base : Int), .int .u64 (t.bt : Int), vn] 56)) p nb xb x vn (.slice (some ⟨wx.heap.size, 0, none⟩) 1 1) nv [(t, vn)] ms n rs ns pr s t S := by
  obtain ⟨O, h1, h2, h3, h4, h5⟩ := h
  have hb := box_below wx (.cells #[.int .u64 (t.term : Int), .int .i64 ((t.vote : Int) - 1), .int .u64 (t.base : Int), .int .u64 (t.bt : Int), vn] 56)
  exact ⟨O, h1.below hb, h2.trans (hb.mono h2.size), h3.alone h1.lt, h4.below hb, h5⟩
/-- A fall, and Open. -/
theorem pq_fall {kv : Value} {ks : List Int} (h : PQ w2 wx p nb xb x vn mv nv M ms (n + 2) rs ns pr s t S) (hk : Dk.KeepAt wx (fun k => w2.heap.size ≤ k) kv ks) (hkl : ks.length ≤ 100) (hlen : (recsB rs).length ≤ 32768) (hfew : rs.length ≤ 650) :
    Calls Tryz.prog 13 #[.pointer (some ⟨w2.heap.size, 0, none⟩), .agg #[kv]] wx fun e w1 => e = .returned (.tuple #[]) ∧ Hid (Calls Tryz.prog 9 #[.pointer (some ⟨w2.heap.size, 0, none⟩)] w1 fun e w' => ∃ p', e = .returned (.tuple #[.pointer (some ⟨p', 0, none⟩), .nilIface]) ∧ Hid (∃ k sk S', ns ≤ k ∧ k ≤ rs.length ∧ runS sta0 (rs.take k) = .ok sk ∧ S'.off = false ∧ PQ w2 w' p' nb xb x vn mv nv M ms n (rs.take k) (rs.take k).length pr sk t S')) := by
  obtain ⟨O, h1, h2, h3, h4, h5⟩ := h
  refine (ws_fall h1 (keep_less hk h1.bo) (by omega) (by omega) (by omega)).mono fun e w1 ⟨e1, e2, e3⟩ => ⟨e1, (unhide e3).mono ?_⟩
  rintro e w' ⟨p', k, sk, S', O', rfl, q1, q2, q3, q4, q5, q6, q7⟩
  exact ⟨p', rfl, k, sk, S', q1, q2, q3, q4, O', q5, h2.trans (fro_below q6 h1.bo h2.size), h3.fro q6 q7, h4.fro q6 q7, h5⟩
/-- A state held against the wal. -/
theorem pq_is {y : Sta × Value} (h : PQ w2 wx p nb xb x vn mv nv M ms n rs ns pr s t S) (hy : EL wx y.2 y.1.es) (hok : ∀ g ∈ y.1.es, g.ok) :
    Calls Tryz.prog 24 #[.agg #[.int .u64 (y.1.term : Int), .int .i64 ((y.1.vote : Int) - 1), .int .u64 (y.1.base : Int), .int .u64 (y.1.bt : Int), y.2], .pointer (some ⟨p, 0, none⟩)] wx fun e w' => (∃ b, e = .returned (.bool b) ∧ (b = true ↔ s = y.1)) ∧ Below wx.heap.size wx w' := by
  obtain ⟨O, h1, _⟩ := h
  exact is_any h1 hy hok
/-- The state of the row of those that are told. -/
theorem PQ.next {na : Option Addr} {nn nk j : Nat} {y : Sta × Value} (h : PQ w2 wx p nb xb x vn mv (.slice na nn nk) M ms n rs ns pr s t S) (hj : ms[j]? = some y) : nn = ms.length ∧ ∃ bq, na = some ⟨bq, 0, none⟩ ∧ (wx.cell? ⟨bq, j * 5, none⟩ = some (.int .u64 (y.1.term : Int)) ∧ wx.cell? ⟨bq, j * 5 + 1, none⟩ = some (.int .i64 ((y.1.vote : Int) - 1)) ∧ wx.cell? ⟨bq, j * 5 + 2, none⟩ = some (.int .u64 (y.1.base : Int)) ∧ wx.cell? ⟨bq, j * 5 + 3, none⟩ = some (.int .u64 (y.1.bt : Int)) ∧ wx.cell? ⟨bq, j * 5 + 4, none⟩ = some y.2) ∧ EL wx y.2 y.1.es ∧ ∀ O, NX wx xb x (.slice na nn nk) ms O → ∀ g, inB y.2 g → ¬ O g := by
  obtain ⟨O, h1, h2, h3, h4, h5⟩ := h
  have hm := List.mem_of_getElem? hj
  obtain ⟨b, cap, e, hc⟩ := own_st h4.row hj
  injection e with e1 e2 e3
  exact ⟨e2, b, e1, ⟨hc 0 _ rfl, hc 1 _ rfl, hc 2 _ rfl, hc 3 _ rfl, hc 4 _ rfl⟩, (h4.els y hm).1, fun O hO => (hO.els y hm).2⟩
theorem PQ.frz (h : PQ w2 wx p nb xb x vn mv nv M ms n rs ns pr s t S) (i : Nat) : wx.frozen? ⟨nb, i, none⟩ = false := by
  obtain ⟨O, h1, h2, h3, _⟩ := h
  exact h3.frz i
/-- The state of the row of those that may be. -/
theorem PQ.may {ma : Option Addr} {mn mk j : Nat} {y : Sta × Value} (h : PQ w2 wx p nb xb x vn (.slice ma mn mk) nv M ms n rs ns pr s t S) (hj : M[j]? = some y) : mn = M.length ∧ ∃ bq, ma = some ⟨bq, 0, none⟩ ∧ (wx.cell? ⟨bq, j * 5, none⟩ = some (.int .u64 (y.1.term : Int)) ∧ wx.cell? ⟨bq, j * 5 + 1, none⟩ = some (.int .i64 ((y.1.vote : Int) - 1)) ∧ wx.cell? ⟨bq, j * 5 + 2, none⟩ = some (.int .u64 (y.1.base : Int)) ∧ wx.cell? ⟨bq, j * 5 + 3, none⟩ = some (.int .u64 (y.1.bt : Int)) ∧ wx.cell? ⟨bq, j * 5 + 4, none⟩ = some y.2) ∧ EL wx y.2 y.1.es := by
  obtain ⟨O, h1, h2, h3, h4, h5⟩ := h
  have hm := List.mem_of_getElem? hj
  obtain ⟨b, cap, e, hc⟩ := own_st h3.row hj
  injection e with e1 e2 e3
  exact ⟨e2, b, e1, ⟨hc 0 _ rfl, hc 1 _ rfl, hc 2 _ rfl, hc 3 _ rfl, hc 4 _ rfl⟩, (h3.els y hm).1⟩
theorem PQ.turn_may {y : Sta × Value} {j : Nat} (h : PQ w2 wx p nb xb x vn mv nv M ms n rs ns pr s t S) (hj : M[j]? = some y) (hw : w'.heap = (((((wx.setCell ⟨nb, 0, none⟩ (.int .u64 (y.1.term : Int))).setCell ⟨nb, 1, none⟩ (.int .i64 ((y.1.vote : Int) - 1))).setCell ⟨nb, 2, none⟩ (.int .u64 (y.1.base : Int))).setCell ⟨nb, 3, none⟩ (.int .u64 (y.1.bt : Int))).setCell ⟨nb, 4, none⟩ y.2).heap) (henv : Dk.Env wx w') : PQ w2 w' p nb xb x y.2 mv nv M ms n rs ns pr s y.1 S := by
  have hm := List.mem_of_getElem? hj
  obtain ⟨O, h1, h2, h3, h4, h5, h6⟩ := h
  obtain ⟨q1, q2, q3⟩ := h3.turn hw (h3.els y hm).1 (h3.els y hm).2
  have hB : Below w2.heap.size wx w' := ⟨henv.1, henv.2.1, henv.2.2, by omega, fun k hk => q2 k (by omega)⟩
  refine ⟨O, h1.keep (by omega) (fun k hk => q2 k (fun e => h3.nO (e ▸ hk))) hB, h2.trans hB, q1, ?_, h5, h6⟩
  refine ⟨h4.xO, (q2 xb (by omega)).trans h4.xc, own_keep h4.row (fun b hb => q2 b (by have := (own_block h4.row hb).1; omega)), h4.rowO, fun z hz => ⟨(h4.els z hz).1.keep (fun g hg => q2 g (fun e => ?_)), (h4.els z hz).2⟩⟩
  have := el_ne (h4.els z hz).1 h3.now (by decide)
  exact this (e ▸ hg)
/-- Behind a fall, or where there is none. -/
def PZ (w2 wx : World) (p nb xb : Nat) (x : GStp) (vn mv : Value) (M : List (Sta × Value)) (i : Nat) (xs : List GStp) : Prop :=
  ∃ rs ns pr s S nv ms, PQ w2 wx p nb xb x vn mv nv M ms (9000 - 10 * i - 9) rs ns pr s s S ∧ S.off = false ∧ MayI rs ns M ∧ EOk M ∧ SzI xs (i + 1) rs s M
theorem PZ.head {i : Nat} {xs : List GStp} (h : PZ w2 wx p nb xb x vn mv M i xs) : PI w2 wx p nb (i + 1) vn mv M xs := by
  obtain ⟨rs, ns, pr, s, S, nv, ms, ⟨O, h1, h2, h3, h4, h5, h6⟩, hon, hm, he, hz⟩ := h
  exact ⟨rs, ns, pr, s, S, O, h1.less (by omega), hon, h2, h3, h5, hm, he, hz⟩
theorem PZ.below {i : Nat} {xs : List GStp} (h : PZ w2 wx p nb xb x vn mv M i xs) (hb : Below wx.heap.size wx w') : PZ w2 w' p nb xb x vn mv M i xs := by
  obtain ⟨rs, ns, pr, s, S, nv, ms, hq, h⟩ := h
  exact ⟨rs, ns, pr, s, S, nv, ms, hq.below hb, h⟩
theorem PZ.is {i : Nat} {xs : List GStp} (h : PZ w2 wx p nb xb x vn mv M i xs) : ∃ s : Sta, (∃ a k, vn = .slice a s.es.length k) ∧ (wx.cell? ⟨nb, 0, none⟩ = some (.int .u64 (s.term : Int)) ∧ wx.cell? ⟨nb, 1, none⟩ = some (.int .i64 ((s.vote : Int) - 1)) ∧ wx.cell? ⟨nb, 2, none⟩ = some (.int .u64 (s.base : Int)) ∧ wx.cell? ⟨nb, 3, none⟩ = some (.int .u64 (s.bt : Int)) ∧ wx.cell? ⟨nb, 4, none⟩ = some vn) ∧ Calls Tryz.prog 24 #[.agg #[.int .u64 (s.term : Int), .int .i64 ((s.vote : Int) - 1), .int .u64 (s.base : Int), .int .u64 (s.bt : Int), vn], .pointer (some ⟨p, 0, none⟩)] wx fun e w' => e = .returned (.bool true) ∧ PZ w2 w' p nb xb x vn mv M i xs := by
  obtain ⟨rs, ns, pr, s, S, nv, ms, hq, hr⟩ := id h
  have hel : EL wx vn s.es := by obtain ⟨O, _, _, h3, _⟩ := hq; exact h3.el
  have hok : ∀ g ∈ s.es, g.ok := by obtain ⟨O, h1, _⟩ := hq; exact fun g hg => (h1.info.2.2.2.1.2.2.2.2.2 g hg).1
  obtain ⟨a, k, e, _, _⟩ := hel.slice
  refine ⟨s, ⟨a, k, e⟩, hq.cells.1, (pq_is (y := (s, vn)) hq hel hok).mono ?_⟩
  rintro e w' ⟨⟨b, rfl, hb⟩, hbl⟩
  rw [hb.2 rfl]
  exact ⟨rfl, h.below hbl⟩
/-- Behind a fall: a state held against the wal, told as the one now. -/
theorem pq_found {M' : List (Sta × Value)} {i k : Nat} {xs : List GStp} {sk : Sta} (h : PQ w2 wx p nb xb x vn mv nv M ms (9000 - 10 * i - 7) (rs.take k) (rs.take k).length pr sk sk S) (hon : S.off = false) (hz : SzI xs (i + 1) rs s M') (hrun : runS sta0 (rs.take k) = .ok sk) :
    PZ w2 (wx.alloc (.cells #[.int .u64 (sk.term : Int), .int .i64 ((sk.vote : Int) - 1), .int .u64 (sk.base : Int), .int .u64 (sk.bt : Int), vn] 56)) p nb xb x vn (.slice (some ⟨wx.heap.size, 0, none⟩) 1 1) [(sk, vn)] i xs := by
  have hok : (∀ r ∈ rs.take k, r.ok) ∧ sk.ok := by obtain ⟨O, h1, _⟩ := h; exact ⟨h1.info.2.1, h1.info.2.2.2.1⟩
  have k1 := hz.bytes
  have k2 := hz.recs
  have k3 : (recsB (rs.take k)).length ≤ (recsB rs).length := all_le
  have k4 : (rs.take k).length ≤ rs.length := by rw [List.length_take]; omega
  have k5 : sk.es.length ≤ (rs.take k).length := runS_many hrun
  refine ⟨rs.take k, (rs.take k).length, pr, sk, S, nv, ms, h.alone.less (by omega), hon, mayI_alone hrun, fun y hy g hg => ?_, ⟨by omega, by omega, by omega, by simp⟩⟩
  rw [List.mem_singleton.1 hy] at hg
  exact (hok.2.2.2.2.2.2 g hg).1
end
end Go.Proofs.YthphadbcebeoaaaGreatDoor
