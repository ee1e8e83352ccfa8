/- The wal written anew: the bytes of a state. -/
import Derived.Test.YthphadbcebeoaaaGreatDoorJWaSetWaRw0
import Derived.BigRegion
namespace Go.Proofs.YthphadbcebeoaaaGreatDoor
open Go.RowKit Go.Lib Go.Maps

/-- Records' cells, one behind the other. -/
def rsC (rs : List Rc) : List Value := rs.flatMap fun r => r.cells.toList
theorem rc_cells_len (r : Rc) : r.cells.toList.length = 8 := rfl
theorem rc_cells_one (r : Rc) : ∀ u ∈ r.cells.toList, u.oneCell' = true := by
  intro u hu
  simp [Rc.cells] at hu
  rcases hu with rfl | rfl | rfl | rfl | rfl | rfl | rfl | rfl <;> rfl
theorem rsC_app (a b : List Rc) : rsC (a ++ b) = rsC a ++ rsC b := by simp [rsC]
theorem rsC_one (r : Rc) : rsC [r] = r.cells.toList := by simp [rsC]
theorem rsC_len : ∀ rs : List Rc, (rsC rs).length = rs.length * 8
  | [] => rfl
  | r :: rs => by rw [rsC, List.flatMap_cons, List.length_append, rc_cells_len]; have := rsC_len rs; unfold rsC at this; rw [this, List.length_cons]; omega
theorem rsC_drop (rs : List Rc) (n : Nat) : (rsC rs).drop (n * 8) = rsC (rs.drop n) := by
  rcases Nat.lt_or_ge n rs.length with h | h
  · conv => lhs; rw [← List.take_append_drop n rs, rsC_app]
    have e : (rsC (rs.take n)).length = n * 8 := by rw [rsC_len, List.length_take]; omega
    rw [← e, List.drop_left]
  · rw [List.drop_of_length_le (by rw [rsC_len]; omega), List.drop_of_length_le h]; rfl
theorem rsC_get (rs : List Rc) (i j : Nat) (r : Rc) (h : rs[i]? = some r) (hj : j < 8) : (rsC rs)[i * 8 + j]? = r.cells[j]? := by
  have e1 : (rsC rs)[i * 8 + j]? = ((rsC rs).drop (i * 8))[j]? := by rw [List.getElem?_drop]
  have hi := (List.getElem?_eq_some_iff.1 h)
  rw [e1, rsC_drop, List.drop_eq_getElem_cons hi.1, hi.2, rsC, List.flatMap_cons, List.getElem?_append_left (by rw [rc_cells_len]; exact hj), Array.getElem?_toList]
theorem Tryz.infoRc2 : (Tryz.prog.info? 84).map (fun i => (i.zero, i.size, i.bytes)) = some (some (.agg zRec), 8, 72) := by kernel_rfl
/-- One record more, out of a block of its own. -/
theorem wpList_append_rc {w : World} {ops : Array Oper} {rest : List Oper} {o : Oper} {a : Act} {Q : Exit → Act → World → Prop} (hgd : o.guard = none) (s x : Operand)
    (ho : o.op = .call { callee := .builtin .append, args := #[s, x], argTypes := #[85, 85] })
    (base : Nat) (v : Value) (rs : List Rc) (r : Rc) (hs : a.eval s = v) (hown : w.ownsRow base 84 8 v rs.length (rsC rs)) (b : Nat) (hx : a.eval x = .slice (some ⟨b, 0, none⟩) 1 1) (hb : w.heap[b]? = some (.cells r.cells 84 (0, 0))) (hn : rs.length ≤ 1000000) (hbase : base ≤ w.heap.size)
    (h : ∀ v' w', w'.ownsRow base 84 8 v' (rs ++ [r]).length (rsC (rs ++ [r])) → Below base w w' → wpList Tryz.prog ops Q rest (a.put o.dst v') w') : wpList Tryz.prog ops Q (o :: rest) a w := by
  obtain ⟨i0, hi, hz0, hz1, hz2⟩ := info_parts Tryz.infoRc2
  refine wpList_append_own_at w hgd s x 85 ho base 84 i0 _ 8 72 Tryz.underlying85 hi hz0 hz1 hz2 rfl (by decide) v rs.length (rsC rs) hs hown ⟨b, 0, none⟩ 1 1 r.cells.toList hx rfl (fun j u hj => ?_) (rc_cells_one r) (by unfold maxLen; omega) (by omega) hbase ?_
  · rw [Go.WideShapes.add_plain, Nat.zero_add, (Dk.cellB hb _).1, ← Array.getElem?_toList]
    exact hj
  · intro v' w' ho' hg _ _
    refine h v' w' (by rw [rsC_app, rsC_one, List.length_append, List.length_singleton]; exact ho') ?_
    refine (Below.refl _ _).grown hg hbase (fun k hk => ?_)
    rcases hown.2 with ⟨rfl, _⟩ | ⟨g, c, cur, rfl, hB, _⟩
    · simp [Value.ownBlock] at hk
    · simp [Value.ownBlock] at hk; omega
/-- A record in a row of records. -/
theorem rcs_at {w : World} {base : Nat} {v : Value} {rs : List Rc} (h : w.ownsRow base 84 8 v rs.length (rsC rs)) {i : Nat} {r : Rc} (hi : rs[i]? = some r) : ∃ b cap, v = .slice (some ⟨b, 0, none⟩) rs.length cap ∧ b < w.heap.size ∧ base ≤ b ∧ ∀ j u, r.cells[j]? = some u → w.cell? ⟨b, i * 8 + j, none⟩ = some u := by
  have hl := (List.getElem?_eq_some_iff.1 hi).1
  obtain ⟨_, ⟨_, h0⟩ | ⟨g, cap, cur, h1, h2, h3, h4, h5, h6, h7⟩⟩ := h
  · omega
  · refine ⟨g, cap, h1, (Array.getElem?_eq_some_iff.1 h3).1, h2, fun j u hj => ?_⟩
    have hj8 : j < 8 := by have := (Array.getElem?_eq_some_iff.1 hj).1; simpa [Rc.cells] using this
    rw [(Dk.cellB h3 _).1, ← Array.getElem?_toList]
    have e := rsC_get rs i j r hi hj8
    rw [hj, ← h7, List.getElem?_take] at e
    split at e
    · exact e
    · cases e
theorem rcs_keepT {w w' : World} {base n : Nat} {v : Value} {xs : List Value} (h : w.ownsRow base 84 8 v n xs) (hk : KeepT 5 w w') : w'.ownsRow base 84 8 v n xs := by
  obtain ⟨h1, h2 | ⟨g, cap, cur, q3, q4, q5, q6⟩⟩ := h
  · exact ⟨h1, .inl h2⟩
  · refine ⟨h1, .inr ⟨g, cap, cur, q3, q4, (hk.2 g (Array.getElem?_eq_some_iff.1 q5).1 (fun cur' hc => ?_)).trans q5, q6⟩⟩
    have := (Obj.cells.inj (Option.some.inj (q5.symm.trans hc))).2.1
    exact absurd this (by decide)
set_option maxHeartbeats 12800000 in
set_option maxRecDepth 100000 in
theorem bytes_any {w : World} {p : Nat} {s : Sta} {ea : Option Addr} {ek : Nat} (hb : w.heap[p]? = some (.cells (sC s (.slice ea s.es.length ek)) 77 (0, 0))) (hel : EL w (.slice ea s.es.length ek) s.es) (hs : s.ok) (hn : s.es.length ≤ 1000) (hT : ST w) (hlen : (recsB (stR s)).length ≤ 1000000) :
    Calls Tryz.prog 101 #[.pointer (some ⟨p, 0, none⟩)] w fun e w' => ∃ vb, e = .returned (.tuple #[vb, .nilIface]) ∧ w'.ownsRow w.heap.size 5 1 vb (recsB (stR s)).length (byteCells (recsB (stR s))) ∧ Below w.heap.size w w' := by
  have c0 : w.cell? ⟨p, 0, none⟩ = some (.int .u64 (s.term : Int)) := (Dk.cellB hb 0).1
  have c1 : w.cell? ⟨p, 1, none⟩ = some (.int .u64 (s.vote : Int)) := (Dk.cellB hb 1).1
  have c2 : w.cell? ⟨p, 2, none⟩ = some (.int .u64 (s.base : Int)) := (Dk.cellB hb 2).1
  have c3 : w.cell? ⟨p, 3, none⟩ = some (.int .u64 (s.bt : Int)) := (Dk.cellB hb 3).1
  have hpl : p < w.heap.size := (Array.getElem?_eq_some_iff.1 hb).1
  obtain ⟨W1, hW1⟩ : ∃ W1, W1 = (w.alloc (.cells #[.int .u8 2, .int .u64 (s.bt : Int), .int .u64 (s.base : Int), .int .u64 0, .int .i64 0, .int .u64 0, .int .u64 0, .string ⟨#[]⟩, .int .u8 1, .int .u64 (s.term : Int), .int .u64 (s.vote : Int), .int .u64 0, .int .i64 0, .int .u64 0, .int .u64 0, .string ⟨#[]⟩] 84)).drew := ⟨_, rfl⟩
  have hbW : Below w.heap.size w W1 := by rw [hW1]; exact below_trans0 (box_below w _) (drew_below _ 1)
  have HO : Hid (W1.ownsRow w.heap.size 84 8 (.slice (some ⟨w.heap.size, 0, none⟩) 2 2) 2 (rsC ((stR s).take 2))) := by
    refine ⟨rfl, .inr ⟨w.heap.size, 2, _, rfl, Nat.le_refl _, by rw [hW1]; exact heap_alloc_new _ _, Nat.le_refl _, by decide, rfl, rfl⟩⟩
  have c4 : W1.cell? ⟨p, 4, none⟩ = some (.slice ea s.es.length ek) := (hbW.cell (p := ⟨p, 4, none⟩) hpl).trans (Dk.cellB hb 4).1
  have HBW := hide hbW
  have HE : Hid (∀ (i : Nat) (wr : World), Below w.heap.size w wr → i < s.es.length → ∃ (g : GE) (b off : Nat), ea = some ⟨b, off, none⟩ ∧ s.es[i]? = some g ∧ wr.cell? ⟨b, off + i * 5, none⟩ = some (.int .u64 (g.term : Int)) ∧ wr.cell? ⟨b, off + i * 5 + 1, none⟩ = some (.int .i64 g.kind) ∧ wr.cell? ⟨b, off + i * 5 + 2, none⟩ = some (.int .u64 (g.client : Int)) ∧ wr.cell? ⟨b, off + i * 5 + 3, none⟩ = some (.int .u64 (g.seq : Int)) ∧ wr.cell? ⟨b, off + i * 5 + 4, none⟩ = some (.string g.sql)) := by
    intro i wr hbr hi
    have hg : s.es[i]? = some s.es[i] := List.getElem?_eq_getElem hi
    obtain ⟨b, off, k, e, hbl, _, hc⟩ := (hel.below hbr).cells hg
    cases e
    exact ⟨s.es[i], b, off, rfl, hg, hc 0 _ rfl, hc 1 _ rfl, hc 2 _ rfl, hc 3 _ rfl, hc 4 _ rfl⟩
  have HTake : Hid (∀ (i : Nat) (g : GE), s.es[i]? = some g → (stR s).take (i + 1 + 2) = (stR s).take (i + 2) ++ [rcE g]) := by
    intro i g hg
    rw [show i + 1 + 2 = (i + 2) + 1 by omega, List.take_add_one]
    have : (stR s)[i + 2]? = some (rcE g) := by simp [stR, hg]
    rw [this]; rfl
  have HTl : Hid (∀ i, i ≤ s.es.length → ((stR s).take (i + 2)).length = i + 2) := fun i hi => by rw [List.length_take, stR_len]; omega
  have hn' : (s.es.length : Int) ≤ 1000 := by omega
  have HF : Hid (∀ (j : Nat) (r : Rc) (wr : World), (stR s)[j]? = some r → Below w.heap.size w wr → Calls Tryz.prog 59 #[.agg r.cells] wr fun e w' => ∃ v', e = .returned (.tuple #[v', .nilIface]) ∧ w'.ownsRow wr.heap.size 5 1 v' r.bytes.length (byteCells r.bytes) ∧ Below wr.heap.size wr w') := by
    intro j r wr hj h
    have hr := stR_ok hs r (List.mem_of_getElem? hj)
    obtain ⟨k1, k2, k3, k4⟩ := rec_ok hr
    exact (frame_any r wr k1 k2 k3 k4 (hT.below h hT.lt)).mono fun e w' hp => frame_good hp hr
  have HL : Hid (∀ r ∈ stR s, r.bytes.length ≤ 100009) := fun r hr => rc_len (stR_ok hs r hr)
  have HLB := hide hlen
  have HR : Hid ((stR s).length = s.es.length + 2) := stR_len
  clear hb hel hs hT hbW hlen
  go_enter Tryz.func101, Tryz.ntmps101
  go_wp2_with fail
  go_region
  rw [← hW1]
  clear hW1 c0 c1 c2 c3
  go_wp2_with fail
  go_loopw [4, 6, 36] (fun s4 s6 s36 wr => s6 = s6 ∧ ∃ i va vc, i ≤ s.es.length ∧ s36 = .int .i64 (i : Int) ∧ s4 = .slice va (i + 2) vc ∧ Hid (wr.ownsRow w.heap.size 84 8 (.slice va (i + 2) vc) (i + 2) (rsC ((stR s).take (i + 2))) ∧ Below w.heap.size w wr)) (fun _ _ s36 _ => s.es.length - (RowKit.intOf s36).toNat)
  case atStart => exact ⟨rfl, 0, _, _, Nat.zero_le _, rfl, rfl, unhide HO, unhide HBW⟩
  case round =>
    obtain ⟨-, i, va, vc, hi, rfl, rfl, hr⟩ := hrel
    clear HO
    by_cases hlt : i < s.es.length
    · obtain ⟨g, b, off, rfl, hg, d0, d1, d2, d3, d4⟩ := unhide HE i wr (unhide hr).2 hlt
      have hii : (i : Int) < (s.es.length : Int) := by omega
      have hi0 : (0 : Int) ≤ (i : Int) := by omega
      have hb1 := box_below wr (.cells #[.int .u64 (g.term : Int), .int .i64 g.kind, .int .u64 (g.client : Int), .int .u64 (g.seq : Int), .string g.sql] 37)
      have hb2 := box_below (wr.alloc (.cells #[.int .u64 (g.term : Int), .int .i64 g.kind, .int .u64 (g.client : Int), .int .u64 (g.seq : Int), .string g.sql] 37)) (.cells #[.int .u8 4, .int .u64 0, .int .u64 0, .int .u64 (g.term : Int), .int .i64 g.kind, .int .u64 (g.client : Int), .int .u64 (g.seq : Int), .string g.sql] 84)
      have hb3 := below_trans0 hb1 hb2
      obtain ⟨W2, hW2⟩ : ∃ W2, W2 = (wr.alloc (.cells #[.int .u64 (g.term : Int), .int .i64 g.kind, .int .u64 (g.client : Int), .int .u64 (g.seq : Int), .string g.sql] 37)).alloc (.cells #[.int .u8 4, .int .u64 0, .int .u64 0, .int .u64 (g.term : Int), .int .i64 g.kind, .int .u64 (g.client : Int), .int .u64 (g.seq : Int), .string g.sql] 84) := ⟨_, rfl⟩
      rw [← hW2] at hb3
      have HO2 : Hid (W2.ownsRow w.heap.size 84 8 (.slice va (i + 2) vc) ((stR s).take (i + 2)).length (rsC ((stR s).take (i + 2))) ∧ Below w.heap.size w W2 ∧ W2.heap[wr.heap.size + 1]? = some (.cells (rcE g).cells 84 (0, 0))) := by
        refine ⟨by rw [unhide HTl i hi]; exact own_later (unhide hr).1 hb3, below_trans0 (unhide hr).2 hb3, ?_⟩
        have := heap_alloc_new (wr.alloc (.cells #[.int .u64 (g.term : Int), .int .i64 g.kind, .int .u64 (g.client : Int), .int .u64 (g.seq : Int), .string g.sql] 37)) (.cells (rcE g).cells 84)
        rw [World.size_alloc] at this
        rw [hW2]; exact this
      have HL2 : Hid (((stR s).take (i + 2)).length ≤ 1000000) := by rw [unhide HTl i hi]; show i + 2 ≤ 1000000; omega
      have hT2 := unhide HTl (i + 1) (by omega)
      have hT3 := unhide HTake i g hg
      have HT2 := hide hT2
      have HT3 := hide hT3
      clear hr hb1 hb2 hb3 hT2 hT3 hg
      go_wp2_with (first
        | (at_builtin; rw [← hW2]; refine wpList_append_rc rfl (.tmp 40) (.tmp 43) rfl w.heap.size _ ((stR s).take (i + 2)) (rcE g) rfl (unhide HO2).1 (wr.heap.size + 1) rfl (unhide HO2).2.2 (unhide HL2) (unhide HO2).2.1.size ?_; intro v4 w4 o4 b4; rw [← unhide HT3, unhide HT2] at o4; have HO4 := hide (And.intro o4 ((unhide HO2).2.1.trans b4)); obtain ⟨va4, vc4, rfl⟩ : ∃ va4 vc4, v4 = .slice va4 (i + 1 + 2) vc4 := own_slice o4; clear o4 b4))
      refine ⟨⟨trivial, i + 1, va4, vc4, by omega, by simp, rfl, unhide HO4⟩, ?_⟩
      simp [RowKit.intOf]; omega
    · obtain rfl : i = s.es.length := by omega
      have hii : ¬ ((s.es.length : Int) < (s.es.length : Int)) := by omega
      have HO2 : Hid (wr.ownsRow w.heap.size 84 8 (.slice va (s.es.length + 2) vc) (stR s).length (rsC (stR s)) ∧ Below w.heap.size w wr) := by
        obtain ⟨q1, q2⟩ := unhide hr
        have e1 : (stR s).take (s.es.length + 2) = stR s := List.take_of_length_le (by rw [unhide HR]; omega)
        rw [e1] at q1
        exact ⟨by rw [unhide HR]; exact q1, q2⟩
      clear hr HE HTake HTl c4 hlt
      obtain ⟨M, hM⟩ : ∃ M, M = s.es.length + 2 := ⟨_, rfl⟩
      rw [← hM] at HO2 HR ⊢
      have hM2 : (M : Int) ≤ 1002 := by omega
      have HM := hide hM
      clear hM hn' hi hii
      have HQ : Hid (∀ (j : Nat) (wx : World), j < M → wx.ownsRow w.heap.size 84 8 (.slice va M vc) (stR s).length (rsC (stR s)) → ∃ (r : Rc) (b : Nat), va = some ⟨b, 0, none⟩ ∧ (stR s)[j]? = some r ∧ wx.cell? ⟨b, j * 8, none⟩ = some (.int .u8 (r.kind : Int)) ∧ wx.cell? ⟨b, j * 8 + 1, none⟩ = some (.int .u64 (r.term : Int)) ∧ wx.cell? ⟨b, j * 8 + 2, none⟩ = some (.int .u64 (r.place : Int)) ∧ wx.cell? ⟨b, j * 8 + 3, none⟩ = some (.int .u64 (r.ent.term : Int)) ∧ wx.cell? ⟨b, j * 8 + 4, none⟩ = some (.int .i64 r.ent.kind) ∧ wx.cell? ⟨b, j * 8 + 5, none⟩ = some (.int .u64 (r.ent.client : Int)) ∧ wx.cell? ⟨b, j * 8 + 6, none⟩ = some (.int .u64 (r.ent.seq : Int)) ∧ wx.cell? ⟨b, j * 8 + 7, none⟩ = some (.string r.ent.sql)) := by
        intro j wx hj ho
        have hr : (stR s)[j]? = some ((stR s)[j]'(by rw [unhide HR]; exact hj)) := List.getElem?_eq_getElem _
        obtain ⟨b, cap, e, _, _, hc⟩ := rcs_at ho hr
        cases e
        exact ⟨_, b, rfl, hr, hc 0 _ rfl, hc 1 _ rfl, hc 2 _ rfl, hc 3 _ rfl, hc 4 _ rfl, hc 5 _ rfl, hc 6 _ rfl, hc 7 _ rfl⟩
      go_wp2_with fail
      go_loopw [7, 9, 10, 11, 48] (fun s7 s9 s10 s11 s48 wx => s9 = s9 ∧ s10 = s10 ∧ s11 = s11 ∧ ∃ j vb, j ≤ M ∧ s48 = .int .i64 (j : Int) ∧ vb = s7 ∧ Hid (wx.ownsRow w.heap.size 84 8 (.slice va M vc) (stR s).length (rsC (stR s)) ∧ Below w.heap.size w wx ∧ wx.ownsRow w.heap.size 5 1 vb (recsB ((stR s).take j)).length (byteCells (recsB ((stR s).take j))))) (fun _ _ _ _ s48 _ => M - (RowKit.intOf s48).toNat)
      case atStart => exact ⟨rfl, rfl, rfl, 0, _, Nat.zero_le _, rfl, rfl, (unhide HO2).1, (unhide HO2).2, World.ownsRow_nil _ _ _ _⟩
      case round =>
        obtain ⟨-, -, -, j, vb, hj, rfl, rfl, hr⟩ := hrel
        clear HO2
        by_cases hlt : j < M
        · obtain ⟨r, b, rfl, ha, d0, d1, d2, d3, d4, d5, d6, d7⟩ := unhide HQ j wr hlt (unhide hr).1
          have hji : (j : Int) < (M : Int) := by omega
          have hj0 : (0 : Int) ≤ (j : Int) := by omega
          have hb1 := box_below wr (.cells #[.int .u8 (r.kind : Int), .int .u64 (r.term : Int), .int .u64 (r.place : Int), .int .u64 (r.ent.term : Int), .int .i64 r.ent.kind, .int .u64 (r.ent.client : Int), .int .u64 (r.ent.seq : Int), .string r.ent.sql] 84)
          have HD1 := hide (And.intro (own_later (unhide hr).1 hb1) (And.intro (below_trans0 (unhide hr).2.1 hb1) (own_later (unhide hr).2.2 hb1)))
          have HF1 := hide (unhide HF j r _ ha (unhide HD1).2.1)
          have hrl2 := unhide HL r (List.mem_of_getElem? ha)
          have hrb : recsB ((stR s).take (j + 1)) = recsB ((stR s).take j) ++ r.bytes := by rw [List.take_add_one, ha, recsB_app]; simp [recsB]
          have Hrb := hide hrb
          have hle : (recsB ((stR s).take j)).length ≤ 1000000 := by
            have h1 := atJ_le (stR s) [] j
            rw [List.append_nil] at h1
            exact Nat.le_trans h1 (unhide HLB)
          clear hb1 hr hrb ha
          unfold Rc.cells at HF1
          go_wp2_with (first
            | (go_at_call 59; refine (unhide HF1).mono ?_; rintro e w2 ⟨v2, rfl, o2, b2⟩; have HD2 := hide (And.intro (own_later (unhide HD1).1 b2) (And.intro (below_trans0 (unhide HD1).2.1 b2) (And.intro (own_later (unhide HD1).2.2 b2) o2))); clear o2 b2 HD1 HF1)
            | (at_builtin; refine wpList_append_rb rfl (.tmp 60) (.tmp 61) rfl w.heap.size _ _ _ rfl (unhide HD2).2.2.1 _ _ r.bytes rfl (rb_own (unhide HD2).2.2.2 (by omega)) (by omega) (by omega) (unhide HD2).2.1.size ?_; intro v4 w4 o4 k4 b4))
          refine ⟨⟨trivial, trivial, trivial, j + 1, v4, by omega, by simp, rfl, ?_, ?_, ?_⟩, ?_⟩
          · exact rcs_keepT (unhide HD2).1 k4
          · exact (unhide HD2).2.1.trans b4
          · rw [unhide Hrb, List.length_append]
            exact own_cast2 o4 rfl (by simp [byteCells_append])
          · simp [RowKit.intOf]; omega
        · obtain rfl : j = M := by omega
          have hji : ¬ ((j : Int) < (j : Int)) := by omega
          have H9 : Hid (wr.ownsRow w.heap.size 5 1 vb (recsB (stR s)).length (byteCells (recsB (stR s))) ∧ Below w.heap.size w wr) := by
            obtain ⟨q1, q2, q3⟩ := unhide hr
            rw [List.take_of_length_le (by rw [unhide HR]; omega)] at q3
            exact ⟨q3, q2⟩
          clear hr HQ HF hlt
          go_wp2_with fail
          go_ret2
          exact ⟨_, rfl, (unhide H9).1, (unhide H9).2⟩
end Go.Proofs.YthphadbcebeoaaaGreatDoor
