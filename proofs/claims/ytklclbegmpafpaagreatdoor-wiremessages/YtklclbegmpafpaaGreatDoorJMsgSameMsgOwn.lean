/- Contract of the statement's own look at two messages that are the same. -/
import Derived.Test.YtklclbegmpafpaaGreatDoorMsgHelp
import Derived.Test.YtklclbegmpafpaaGreatDoorMsgGood
import Derived.Test.YtklclbegmpafpaaGreatDoorMsgBad
import Derived.Test.YtklclbegmpafpaaGreatDoorMsgMay
import Derived.Test.YtklclbegmpafpaaGreatDoorMsgSmall
namespace Go.Proofs.YtklclbegmpafpaaGreatDoor
open Go.RowKit Go.Lib

theorem two_new {w W0 : World} {n : Nat} (h : Below n w W0) (hn : n ≤ W0.heap.size) (A B : Array Value) (T : TypeId) : Below n w ((W0.alloc (.cells A T)).alloc (.cells B T)).drew ∧ Below W0.heap.size W0 ((W0.alloc (.cells A T)).alloc (.cells B T)).drew ∧ Blk ((W0.alloc (.cells A T)).alloc (.cells B T)).drew W0.heap.size T A ∧ Blk ((W0.alloc (.cells A T)).alloc (.cells B T)).drew (W0.heap.size + 1) T B := by
  refine ⟨((h.alloc hn _).alloc (by simp; omega) _).drew, (((Below.refl _ _).alloc (Nat.le_refl _) _).alloc (by simp) _).drew, (Blk.new W0 T A).alloc _, ?_⟩
  have := Blk.new (W0.alloc (.cells A T)) T B
  rw [World.size_alloc] at this
  exact this
theorem sls_len {w : World} {B : Nat} {v : Value} {ts : List ByteArray} (h : SlS w B v ts) : ∃ a k, v = .slice a ts.length k := by
  obtain ⟨_, _, a, cap, h, _⟩ := h
  exact ⟨a, cap, h⟩
set_option maxHeartbeats 6400000 in
set_option maxRecDepth 100000 in
theorem same_true (kd fr tgt : Int) (tm ix lt : Nat) (vE : Value) (cm rd : Nat) (ok : Bool) (off : Int) (vD : Value) (dn : Bool) (cl sq : Nat) (sql : ByteArray) (rsq : Nat) (rcl : Int) (vC vR : Value) (rct : Int) (rix : Nat) (hint : Int) (es : List GE) (lb : List UInt8) (cs : List ByteArray) (rs : List (Value × List GV)) (vE' vD' vC' vR' : Value) (rs' : List (Value × List GV)) (w : World) (hM : MsgAt w w.heap.size vE vD vC vR es lb cs rs) (hM' : MsgAt w w.heap.size vE' vD' vC' vR' es lb cs rs') (he : rs.map Prod.snd = rs'.map Prod.snd) :
    Calls Tryz.prog 10 #[.agg #[.int .i64 kd, .int .i64 fr, .int .i64 tgt, .int .u64 (tm : Nat), .int .u64 (ix : Nat), .int .u64 (lt : Nat), vE, .int .u64 (cm : Nat), .int .u64 (rd : Nat), .bool ok, .int .i64 off, vD, .bool dn, .int .u64 (cl : Nat), .int .u64 (sq : Nat), .string sql, .int .u64 (rsq : Nat), .int .i64 rcl, vC, vR, .int .i64 rct, .int .u64 (rix : Nat), .int .i64 hint], .agg #[.int .i64 kd, .int .i64 fr, .int .i64 tgt, .int .u64 (tm : Nat), .int .u64 (ix : Nat), .int .u64 (lt : Nat), vE', .int .u64 (cm : Nat), .int .u64 (rd : Nat), .bool ok, .int .i64 off, vD', .bool dn, .int .u64 (cl : Nat), .int .u64 (sq : Nat), .string sql, .int .u64 (rsq : Nat), .int .i64 rcl, vC', vR', .int .i64 rct, .int .u64 (rix : Nat), .int .i64 hint]] w fun e w' => e = .returned (.bool true) ∧ Below w.heap.size w w' := by
  obtain ⟨aC, kC, rfl⟩ := sls_len hM.rep.cols
  obtain ⟨aR, kR, rfl⟩ := sl_len hM.rep.rows
  obtain ⟨aC', kC', rfl⟩ := sls_len hM'.rep.cols
  obtain ⟨aR', kR', rfl⟩ := sl_len hM'.rep.rows
  have hb0 : Below w.heap.size w ((w.alloc (.cells #[.int .i64 kd, .int .i64 fr, .int .i64 tgt, .int .u64 (tm : Nat), .int .u64 (ix : Nat), .int .u64 (lt : Nat), vE, .int .u64 (cm : Nat), .int .u64 (rd : Nat), .bool ok, .int .i64 off, vD, .bool dn, .int .u64 (cl : Nat), .int .u64 (sq : Nat), .string sql, .int .u64 (rsq : Nat), .int .i64 rcl, .slice aC cs.length kC, .slice aR rs.length kR, .int .i64 rct, .int .u64 (rix : Nat), .int .i64 hint] 33)).alloc (.cells #[.int .i64 kd, .int .i64 fr, .int .i64 tgt, .int .u64 (tm : Nat), .int .u64 (ix : Nat), .int .u64 (lt : Nat), vE', .int .u64 (cm : Nat), .int .u64 (rd : Nat), .bool ok, .int .i64 off, vD', .bool dn, .int .u64 (cl : Nat), .int .u64 (sq : Nat), .string sql, .int .u64 (rsq : Nat), .int .i64 rcl, .slice aC' cs.length kC', .slice aR' rs'.length kR', .int .i64 rct, .int .u64 (rix : Nat), .int .i64 hint] 33)) := ((Below.refl _ _).alloc (Nat.le_refl _) _).alloc (by simp) _
  have HB := hide hb0
  have HM := hide (fun (W : World) (hW : Below w.heap.size w W) => hM.later hW hW.size)
  have HM' := hide (fun (W : World) (hW : Below w.heap.size w W) => hM'.later hW hW.size)
  have HF := hide hM.rep.few
  have HE := hide he
  clear hM hM' he hb0
  go_enter Tryz.func10, Tryz.ntmps10
  go_upto_region 3 with fail
  go_cut [5, 6] from 110 to 113 (fun s5 s6 wx => ∃ x y : Nat, s5 = .pointer (some ⟨x, 0, none⟩) ∧ s6 = .pointer (some ⟨y, 0, none⟩) ∧ Hid (Below w.heap.size w wx ∧ Below (w.heap.size + 2) ((w.alloc (.cells #[.int .i64 kd, .int .i64 fr, .int .i64 tgt, .int .u64 (tm : Nat), .int .u64 (ix : Nat), .int .u64 (lt : Nat), vE, .int .u64 (cm : Nat), .int .u64 (rd : Nat), .bool ok, .int .i64 off, vD, .bool dn, .int .u64 (cl : Nat), .int .u64 (sq : Nat), .string sql, .int .u64 (rsq : Nat), .int .i64 rcl, .slice aC cs.length kC, .slice aR rs.length kR, .int .i64 rct, .int .u64 (rix : Nat), .int .i64 hint] 33)).alloc (.cells #[.int .i64 kd, .int .i64 fr, .int .i64 tgt, .int .u64 (tm : Nat), .int .u64 (ix : Nat), .int .u64 (lt : Nat), vE', .int .u64 (cm : Nat), .int .u64 (rd : Nat), .bool ok, .int .i64 off, vD', .bool dn, .int .u64 (cl : Nat), .int .u64 (sq : Nat), .string sql, .int .u64 (rsq : Nat), .int .i64 rcl, .slice aC' cs.length kC', .slice aR' rs'.length kR', .int .i64 rct, .int .u64 (rix : Nat), .int .i64 hint] 33)) wx ∧ Blk wx x 31 #[.int .u64 (rsq : Nat), .int .i64 rcl, .slice aC cs.length kC, .slice aR rs.length kR, .int .i64 rct, .int .u64 (rix : Nat)] ∧ Blk wx y 31 #[.int .u64 (rsq : Nat), .int .i64 rcl, .slice aC' cs.length kC', .slice aR' rs'.length kR', .int .i64 rct, .int .u64 (rix : Nat)]))
  case first =>
    go_region
    · have T := two_new (unhide HB) (by simp; omega) #[.int .u64 (rsq : Nat), .int .i64 rcl, .slice aC cs.length kC, .slice aR rs.length kR, .int .i64 rct, .int .u64 (rix : Nat)] #[.int .u64 (rsq : Nat), .int .i64 rcl, .slice aC' cs.length kC', .slice aR' rs'.length kR', .int .i64 rct, .int .u64 (rix : Nat)] 31
      rw [World.size_alloc, World.size_alloc] at T
      have T := hide T
      go_wp2_with fail
      go_meet
      case rel => exact ⟨_, _, rfl, rfl, unhide T⟩
    · have T := two_new (unhide HB) (by simp; omega) #[.int .u64 (rsq : Nat), .int .i64 rcl, .slice aC' cs.length kC', .slice aR' rs'.length kR', .int .i64 rct, .int .u64 (rix : Nat)] #[.int .u64 (rsq : Nat), .int .i64 rcl, .slice aC cs.length kC, .slice aR rs.length kR, .int .i64 rct, .int .u64 (rix : Nat)] 31
      rw [World.size_alloc, World.size_alloc] at T
      have T := hide T
      go_wp2_with fail
      go_meet
      case rel => exact ⟨_, _, rfl, rfl, (unhide T).1, (unhide T).2.1, (unhide T).2.2.2, (unhide T).2.2.1⟩
  case rest =>
    obtain ⟨x, y, rfl, rfl, hT⟩ := hcut
    obtain ⟨t1, t2, t3, t4⟩ := unhide hT
    have HX := hide t1
    have a11 := below_box2 t2 (i := 11) (show w.heap.size < w.heap.size + 2 by omega) rfl
    have a6 := below_box2 t2 (i := 6) (show w.heap.size < w.heap.size + 2 by omega) rfl
    have b11 : wc.cell? ⟨w.heap.size + 1, 11, none⟩ = some vD' := (t2.cell (p := ⟨w.heap.size + 1, 11, none⟩) (by show w.heap.size + 1 < w.heap.size + 2; omega)).trans (by simp)
    have b6 : wc.cell? ⟨w.heap.size + 1, 6, none⟩ = some vE' := (t2.cell (p := ⟨w.heap.size + 1, 6, none⟩) (by show w.heap.size + 1 < w.heap.size + 2; omega)).trans (by simp)
    have x0 := t3.cell 0 _ rfl
    have x1 := t3.cell 1 _ rfl
    have x2 := t3.cell 2 _ rfl
    have x3 := t3.cell 3 _ rfl
    have x4 := t3.cell 4 _ rfl
    have x5 := t3.cell 5 _ rfl
    have y0 := t4.cell 0 _ rfl
    have y1 := t4.cell 1 _ rfl
    have y2 := t4.cell 2 _ rfl
    have y3 := t4.cell 3 _ rfl
    have y4 := t4.cell 4 _ rfl
    have y5 := t4.cell 5 _ rfl
    have P1 := hide (bytes_same vD vD' _ _ lb wc (unhide HM wc t1).data (unhide HM' wc t1).data)
    have P2 := hide (ents_same vE vE' _ _ es wc (unhide HM wc t1).ents (unhide HM' wc t1).ents)
    have P3 := hide (fun (m : Nat) => answers_same (.slice aC cs.length kC) (.slice aR rs.length kR) (.slice aC' cs.length kC') (.slice aR' rs'.length kR') rct cs rs rs' (wc.drewN m) (unhide HM _ (below_drewN t1 m)).rep.cols (unhide HM' _ (below_drewN t1 m)).rep.cols (unhide HM _ (below_drewN t1 m)).rep.rows (unhide HM' _ (below_drewN t1 m)).rep.rows (unhide HE) (unhide HF))
    clear hT t1 t2 t3 t4 HM HM' HE HF HB
    go_wp2_with (first
      | (go_at_call 11; refine (unhide P1).mono ?_; rintro e w1 ⟨rfl, rfl⟩)
      | (go_at_call 36; refine (unhide P2).mono ?_; rintro e w2 ⟨rfl, m2, rfl⟩)
      | (go_at_call 37; refine (unhide P3 m2).mono ?_; rintro e w3 ⟨rfl, hb3⟩))
    go_ret
    exact ⟨rfl, (below_drewN (unhide HX) m2).trans (hb3.mono (below_drewN (unhide HX) m2).size)⟩
end Go.Proofs.YtklclbegmpafpaaGreatDoor
/- What wire.Msg made reads as a message. -/
namespace Go.Proofs.YtklclbegmpafpaaGreatDoor
open Go.RowKit Go.Lib

theorem ePair_inv {α β : Type} {E : α → Option (List UInt8)} {F : β → Option (List UInt8)} {x : α} {y : β} {c : List UInt8} (h : ePair E F (x, y) = some c) : (∃ a, E x = some a) ∧ ∃ b, F y = some b := by
  unfold ePair at h
  dsimp only at h
  cases hE : E x with
  | none => rw [hE] at h; cases h
  | some a =>
    rw [hE] at h
    cases hF : F y with
    | none => rw [hF] at h; cases h
    | some b => exact ⟨⟨a, rfl⟩, ⟨b, rfl⟩⟩
theorem eList_inv {α : Type} {E : α → Option (List UInt8)} {most : Nat} {xs : List α} {b : List UInt8} (h : eList E most xs = some b) : xs.length ≤ most ∧ ∀ x ∈ xs, ∃ a, E x = some a := by
  unfold eList at h
  split at h
  · rename_i hl
    refine ⟨hl, fun x hx => ?_⟩
    cases hE : E x with
    | some a => exact ⟨a, rfl⟩
    | none => rw [eAll_none hx hE] at h; cases h
  · cases h
theorem eData_inv {most : Nat} {x b : List UInt8} (h : eData most x = some b) : x.length ≤ most := by
  unfold eData at h
  split at h
  · assumption
  · cases h
/-- What a message that has bytes keeps to. -/
theorem eMsg_inv {kd fr tgt : Int} {tm ix lt : Nat} {es : List GE} {cm rd : Nat} {ok : Bool} {off : Int} {lb : List UInt8} {dn : Bool} {cl sq : Nat} {sql : ByteArray} {rsq : Nat} {rcl : Int} {cs : List ByteArray} {rs : List (List GV)} {rct : Int} {rix : Nat} {hint : Int} {b : List UInt8}
    (h : eMsg (kd, fr, tgt, tm, ix, lt, es, cm, rd, ok, off, lb, dn, cl, sq, sql, (rsq, rcl, cs, rs, rct, rix), hint) = some b) : es.length ≤ 1000 ∧ lb.length ≤ 262144 ∧ cs.length ≤ 64 ∧ rs.length ≤ 20000 ∧ ∀ r ∈ rs, r.length ≤ 64 := by
  obtain ⟨_, _, h⟩ := ePair_inv h
  obtain ⟨_, _, h⟩ := ePair_inv h
  obtain ⟨_, _, h⟩ := ePair_inv h
  obtain ⟨_, _, h⟩ := ePair_inv h
  obtain ⟨_, _, h⟩ := ePair_inv h
  obtain ⟨_, _, h⟩ := ePair_inv h
  obtain ⟨⟨_, he⟩, _, h⟩ := ePair_inv h
  obtain ⟨_, _, h⟩ := ePair_inv h
  obtain ⟨_, _, h⟩ := ePair_inv h
  obtain ⟨_, _, h⟩ := ePair_inv h
  obtain ⟨_, _, h⟩ := ePair_inv h
  obtain ⟨⟨_, hd⟩, _, h⟩ := ePair_inv h
  obtain ⟨_, _, h⟩ := ePair_inv h
  obtain ⟨_, _, h⟩ := ePair_inv h
  obtain ⟨_, _, h⟩ := ePair_inv h
  obtain ⟨_, _, h⟩ := ePair_inv h
  obtain ⟨⟨_, h⟩, _⟩ := ePair_inv h
  obtain ⟨_, _, h⟩ := ePair_inv h
  obtain ⟨_, _, h⟩ := ePair_inv h
  obtain ⟨⟨_, hc⟩, _, h⟩ := ePair_inv h
  obtain ⟨⟨_, hr⟩, _⟩ := ePair_inv h
  exact ⟨(eList_inv he).1, eData_inv hd, (eList_inv hc).1, (eList_inv hr).1, fun r hx => by obtain ⟨a, ha⟩ := (eList_inv hr).2 r hx; exact (eList_inv ha).1⟩

theorem geList_get : ∀ (xs : List GE) (i j : Nat) (x : GE), xs[i]? = some x → j < 5 → (geListCells xs)[i * 5 + j]? = (geCells x)[j]?
  | y :: r, 0, j, x, h, hj => by
    simp at h; subst h
    have : (geListCells (y :: r)) = geCells y ++ geListCells r := by simp [geListCells]
    rw [this, List.getElem?_append_left (by simp [geCells]; omega)]
    simp
  | y :: r, i + 1, j, x, h, hj => by
    have e : (geListCells (y :: r)) = geCells y ++ geListCells r := by simp [geListCells]
    have e2 : (i + 1) * 5 + j - (geCells y).length = i * 5 + j := by simp [geCells]; omega
    rw [e, List.getElem?_append_right (by simp [geCells]; omega), e2]
    exact geList_get r i j x (by simpa using h) hj
theorem own_at {w : World} {B n sz : Nat} {e : TypeId} {v : Value} {xs : List Value} (h : w.ownsRow B e sz v n xs) (hne : n ≠ 0) : ∃ g cap, v = .slice (some ⟨g, 0, none⟩) n cap ∧ g < w.heap.size ∧ ∀ i u, xs[i]? = some u → w.cell? ⟨g, 0 + i, none⟩ = some u := by
  have hh := h
  obtain ⟨_, ⟨_, h2⟩ | ⟨g, cap, cur, h3, h4, h5, _⟩⟩ := h
  · exact absurd h2 hne
  · have hg : g < w.heap.size := by
      rcases Nat.lt_or_ge g w.heap.size with h' | h'
      · exact h'
      · rw [Array.getElem?_eq_none h'] at h5; cases h5
    refine ⟨g, cap, h3, hg, fun i u hu => ?_⟩
    have := hh.cells (g := g) (by rw [h3]; rfl) i u hu
    rw [addr_add] at this
    rw [Nat.zero_add]; exact this
theorem own_slE {w : World} {B : Nat} {v : Value} {es : List GE} (h : w.ownsRow B 63 5 v es.length (geListCells es)) (hok : ∀ g ∈ es, g.ok) (hl : es.length ≤ 1000) : SlE w w.heap.size v es := by
  obtain ⟨a, cap, hv⟩ := own_slice h
  refine ⟨by unfold maxLen; omega, hok, a, cap, hv, fun hne => ?_⟩
  obtain ⟨g, cap', h3, hg, hc⟩ := own_at h (by intro h0; exact hne (List.eq_nil_of_length_eq_zero h0))
  rw [hv] at h3
  injection h3 with h3 _ _
  refine ⟨g, 0, h3, hg, fun i x hx => ?_⟩
  have k := fun j hj => geList_get es i j x hx hj
  have c0 := hc (i * 5 + 0) _ ((k 0 (by decide)).trans rfl)
  have c1 := hc (i * 5 + 1) _ ((k 1 (by decide)).trans rfl)
  have c2 := hc (i * 5 + 2) _ ((k 2 (by decide)).trans rfl)
  have c3 := hc (i * 5 + 3) _ ((k 3 (by decide)).trans rfl)
  have c4 := hc (i * 5 + 4) _ ((k 4 (by decide)).trans rfl)
  exact ⟨c0, c1, c2, c3, c4⟩
theorem own_slS {w : World} {B : Nat} {v : Value} {ts : List ByteArray} (h : w.ownsRow B 9 1 v ts.length (strListCells ts)) (hok : ∀ t ∈ ts, t.size ≤ maxLen) (hl : ts.length ≤ 1000) : SlS w w.heap.size v ts := by
  obtain ⟨a, cap, hv⟩ := own_slice h
  refine ⟨by unfold maxLen; omega, hok, a, cap, hv, fun hne => ?_⟩
  obtain ⟨g, cap', h3, hg, hc⟩ := own_at h (by intro h0; exact hne (List.eq_nil_of_length_eq_zero h0))
  rw [hv] at h3
  injection h3 with h3 _ _
  exact ⟨g, 0, h3, hg, fun i t ht => hc i _ (by simp [strListCells, ht])⟩
theorem own_slR {w : World} {B : Nat} {v : Value} {rs : List (List GV)} (h : OwR w B v rs) (hok : ∀ r ∈ rs, ∀ g ∈ r, g.ok) (hl : rs.length ≤ 20000) (hr : ∀ r ∈ rs, r.length ≤ 64) : ∃ rs' : List (Value × List GV), rs'.map Prod.snd = rs ∧ SlR w w.heap.size v rs' ∧ ∀ x ∈ rs', x.2.length ≤ 1000 := by
  obtain ⟨vs, h1, h2, h3⟩ := h
  have hz : (vs.zip rs).map Prod.snd = rs := by rw [List.map_snd_zip]; omega
  have hzl : (vs.zip rs).length = rs.length := by simp; omega
  have hmem : ∀ x ∈ vs.zip rs, x.2 ∈ rs := fun x hx => by
    have := List.mem_map_of_mem (f := Prod.snd) hx
    rwa [hz] at this
  refine ⟨vs.zip rs, hz, ⟨by rw [hzl]; unfold maxLen; omega, fun x hx => ?_, ?_⟩, fun x hx => Nat.le_trans (hr x.2 (hmem x hx)) (by decide)⟩
  · obtain ⟨i, hi⟩ := List.mem_iff_getElem?.1 hx
    rw [List.getElem?_zip_eq_some] at hi
    refine .inl ⟨?_, hok x.2 (hmem x hx), own_rw (h3 i x.1 x.2 hi.1 hi.2)⟩
    have := hr x.2 (hmem x hx)
    unfold maxLen
    omega
  · obtain ⟨a, cap, hv⟩ := own_slice h2
    refine ⟨a, cap, by rw [hzl]; exact hv, fun hne => ?_⟩
    obtain ⟨g, cap', h4, hg, hc⟩ := own_at h2 (by intro h0; exact hne (List.eq_nil_of_length_eq_zero (by omega)))
    rw [hv] at h4
    injection h4 with h4 _ _
    refine ⟨g, 0, h4, hg, fun i x hx => ?_⟩
    rw [List.getElem?_zip_eq_some] at hx
    exact hc i _ hx.1
theorem OwnM.at {w : World} {B : Nat} {vE vD vC vR : Value} {es : List GE} {lb : List UInt8} {cs : List ByteArray} {rs : List (List GV)} (h : OwnM w B vE vD vC vR es lb cs rs) (k : es.length ≤ 1000 ∧ lb.length ≤ 262144 ∧ cs.length ≤ 64 ∧ rs.length ≤ 20000 ∧ ∀ r ∈ rs, r.length ≤ 64)
    (h1 : ∀ g ∈ es, g.ok) (h2 : ∀ t ∈ cs, t.size ≤ maxLen) (h3 : ∀ r ∈ rs, ∀ g ∈ r, g.ok) : ∃ rs' : List (Value × List GV), rs'.map Prod.snd = rs ∧ MsgAt w w.heap.size vE vD vC vR es lb cs rs' := by
  obtain ⟨rs', e1, e2, e3⟩ := own_slR h.2.2.2 h3 k.2.2.2.1 k.2.2.2.2
  exact ⟨rs', e1, own_slE h.1 h1 k.1, rb_own h.2.1 (by omega), own_slS h.2.2.1 h2 (by omega), e2, e3⟩
end Go.Proofs.YtklclbegmpafpaaGreatDoor
