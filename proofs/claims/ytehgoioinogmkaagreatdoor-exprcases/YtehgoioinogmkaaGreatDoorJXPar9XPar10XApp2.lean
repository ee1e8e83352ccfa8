/- The document's parser: not. -/
import Derived.Test.YtehgoioinogmkaaGreatDoorXPar6
import Derived.Test.YtehgoioinogmkaaGreatDoorJHandLXPar5
import Derived.Lib.AppendZeros
import Derived.Maps.AppendAt
import Derived.Laws.OwnMore
namespace Go.Proofs.YtehgoioinogmkaaGreatDoor
open Go.RowKit Go.Lib

/-- What stands between two calls of a function that tells an expression: its result's variable, the parser. -/
structure RVX (T : List Tk) (p bt c b2 : Nat) (w wr : World) (S : PS) : Prop where
  out : VrX wr b2 zL
  px : PX T wr p bt c S
  fr : FrX p w wr
  b2p : b2 = w.heap.size
theorem RVX.move {T : List Tk} {p bt c b2 : Nat} {w wr w' : World} {S S' : PS} (h : RVX T p bt c b2 w wr S) (hp : PX T w' p bt c S') (hf : FrX p wr w') (hpl : p < b2) : RVX T p bt c b2 w w' S' :=
  ⟨h.out.keep (hf.blk b2 (ltX h.out.1) (by omega)), hp, h.fr.trans hf, h.b2p⟩
theorem RVX.below {T : List Tk} {p bt c b2 : Nat} {w wr w' : World} {S : PS} (h : RVX T p bt c b2 w wr S) (hb : Below wr.heap.size wr w') : RVX T p bt c b2 w w' S :=
  ⟨h.out.below hb, h.px.below hb, h.fr.trans (FrX.of_below hb), h.b2p⟩
theorem RVX.drew {T : List Tk} {p bt c b2 : Nat} {w wr : World} {S : PS} (h : RVX T p bt c b2 w wr S) : RVX T p bt c b2 w wr.drew S := ⟨h.out, h.px.drew, h.fr.drew, h.b2p⟩
theorem RVX.new {T : List Tk} {p bt c : Nat} {w : World} {S : PS} (h : PX T w p bt c S) : RVX T p bt c w.heap.size w (w.alloc (.cells zL.toArray 29)) S :=
  ⟨VrX.new w rfl, h.below ((Below.refl _ _).alloc (Nat.le_refl _) _), (FrX.refl p w).alloc _, rfl⟩
/-- A level called: what it tells lies behind b2. -/
theorem RVX.call {T : List Tk} {p bt c b2 : Nat} {w wr : World} {S : PS} {f : FuncId} {G : PS → Ex × PS} {B : Nat} (h : RVX T p bt c b2 w wr S) (hG : LvC T p bt c f G B) (hm : muS T S ≤ B) (hpl : p < b2) :
    Calls Tryz.prog f #[.pointer (some ⟨p, 0, none⟩)] wr fun e w' => ∃ M, e = .returned (.agg M.toArray) ∧ ExM w' (fun b => wr.heap.size ≤ b) M (G S).1 ∧ RVX T p bt c b2 w w' (G S).2 ∧ FrX p wr w' ∧ muS T (G S).2 ≤ muS T S := by
  refine (hG wr S h.px hm).mono ?_
  rintro e w' ⟨M, rfl, hx, hp, hf, hm'⟩
  exact ⟨M, rfl, hx, h.move hp hf hpl, hf, hm'⟩
theorem RVX.done {T : List Tk} {p bt c b2 : Nat} {w wr : World} {S S0 : PS} {M : List Value} {E : Ex} (h : RVX T p bt c b2 w wr S) (hx : ExM wr (fun b => b2 < b) M E) (hm : muS T S ≤ muS T S0) (hbt : b2 ≠ bt) (hb2 : b2 ≠ p) :
    VrX (wr.setCells b2 0 M) b2 M ∧ LvP T p bt c w S0 (E, S) (.returned (.agg M.toArray)) (wr.setCells b2 0 M) := by
  have hb2p := h.b2p
  refine ⟨h.out.set hx.len, M, rfl, ?_, h.px.setCells _ hb2 hbt, h.fr.setCells (by omega) _, hm⟩
  exact (hx.setCells (fun q => by omega) M).keep (fun _ _ _ => rfl) (fun b _ q => by omega)
set_option linter.unusedSimpArgs false in
set_option maxHeartbeats 6400000 in
set_option maxRecDepth 20000 in
theorem not_lv {T : List Tk} {p bt c : Nat} (hT : TG T) {st sn : PS → Ex × PS} {B : Nat} (hst : LvC T p bt c 215 st B) (hsn : 1 ≤ B → LvC T p bt c 207 sn (B - 1)) :
    LvC T p bt c 207 (fun S => if isS T 2 [78, 79, 84] S then (unE 2 (sn (openS T [78, 79, 84] S)).1, closeS T [] (sn (openS T [78, 79, 84] S)).2) else st S) B := by
  intro w S hp hmu
  have hbtlt := hp.bt_lt
  have hplt := hp.lt_p
  have HV := hide (RVX.new hp)
  have HNE : Hid (w.heap.size ≠ bt ∧ w.heap.size ≠ p ∧ p < w.heap.size) := ⟨by omega, by omega, by omega⟩
  have HI := hide hp.lt
  have HMU := hide hmu
  clear hp hbtlt hplt hmu
  cases hb : isS T 2 [78, 79, 84] S with
  | false =>
    dsimp only
    rw [if_neg (by rw [hb]; decide)]
    have HNB := hide hb
    obtain ⟨PP, hPP⟩ : ∃ PP, PP = LvP T p bt c w S (st S) := ⟨_, rfl⟩
    have HPP := hide hPP
    show Calls _ _ _ _ (LvP T p bt c w S (st S))
    rw [← hPP]
    clear hb hPP
    go_enter Tryz.func207, Tryz.ntmps207
    go_wp2_with (first | (go_at_call 183; refine (word_any (unhide HV).px [78, 79, 84]).mono ?_; rw [unhide HNB]; rintro e w1 ⟨rfl, hp1, hf1⟩; have HV1 := hide ((unhide HV).move hp1 hf1 (unhide HNE).2.2); clear hp1 hf1) | (go_at_call 215; refine ((unhide HV1).call hst (unhide HMU) (unhide HNE).2.2).mono ?_; rintro e w2 ⟨M2, rfl, hx, hv, hf, hm⟩; have hl2 := hx.len; have HX2 := hide hx; have HV2 := hide hv; have HM2 := hide hm; have HF2 := hide hf; have hst2 := hv.out.storeC hx.len hx.one; have hsn2 := storeNew w2 hx.len hx.one; unfold zL at hsn2; clear hx hv hf hm))
    have hxx : ExM w2 (fun b => w.heap.size < b) M2 (st S).1 := (unhide HX2).keep (fun _ _ _ => rfl) (fun b _ q => by have h1 := (unhide HV1).out.1; have := ltX h1; omega)
    obtain ⟨h1, h2⟩ := (unhide HV2).done (S0 := S) hxx (unhide HM2) (unhide HNE).1 (unhide HNE).2.1
    exact bodyPost_ret (h1.result rfl _ rfl) rfl (by rw [unhide HPP]; exact h2)
  | true =>
    dsimp only
    rw [if_pos hb]
    have HNB := hide hb
    have hmo := muS_open_lt hT (x := [78, 79, 84]) (unhide HI) (isS_err hb).1
    have HMO := hide hmo
    obtain ⟨r, hr⟩ : ∃ r, r = (unE 2 (sn (openS T [78, 79, 84] S)).1, closeS T [] (sn (openS T [78, 79, 84] S)).2) := ⟨_, rfl⟩
    obtain ⟨PP, hPP⟩ : ∃ PP, PP = LvP T p bt c w S r := ⟨_, rfl⟩
    rw [hr] at hPP
    have HPP := hide hPP
    show Calls _ _ _ _ (LvP T p bt c w S (unE 2 (sn (openS T [78, 79, 84] S)).1, closeS T [] (sn (openS T [78, 79, 84] S)).2))
    rw [← hPP]
    clear hb hPP hr hmo
    go_enter Tryz.func207, Tryz.ntmps207
    go_upto_region 6 with (first | (go_at_call 183; refine (word_any (unhide HV).px [78, 79, 84]).mono ?_; rw [unhide HNB]; rintro e w1 ⟨rfl, hp1, hf1⟩; have HV1 := hide ((unhide HV).move hp1 hf1 (unhide HNE).2.2); clear hp1 hf1) | (go_at_call 184; refine (open_any hT (unhide HV1).px [78, 79, 84]).mono ?_; rintro e w2 ⟨rfl, hp1, hf1⟩; have HV2 := hide ((unhide HV1).move hp1 hf1 (unhide HNE).2.2); clear hp1 hf1) | (go_at_call 207; refine ((unhide HV2).call (hsn (by have h1 := unhide HMO; have h2 := unhide HMU; omega)) (by have h1 := unhide HMO; have h2 := unhide HMU; omega) (unhide HNE).2.2).mono ?_; rintro e w3 ⟨M3, rfl, hx, hv, hf, hm⟩; have hl3 := hx.len; have HX3 := hide hx; have HV3 := hide hv; have HM3 := hide hm; have HF3 := hide hf; have hst3 := hv.out.storeC hx.len hx.one; have hsn3 := storeNew w3 hx.len hx.one; unfold zL at hsn3; clear hx hv hf hm) | (go_at_call 186; refine (close_any hT ((unhide HV3).below (alX (Below.refl _ _) (.cells M3.toArray 29))).px []).mono ?_; rintro e w4 ⟨rfl, hp4, hf4⟩; have HP4 := hide hp4; have HF4 := hide hf4; clear hp4 hf4))
    have hw3 : Below w3.heap.size w3 (w3.alloc (.cells M3.toArray 29)) := alX (Below.refl _ _) _
    have hz3 : (w3.alloc (.cells M3.toArray 29)).heap.size = w3.heap.size + 1 := by simp
    have hlo := ltX (unhide HV3).out.1
    have hv4 : VrX w4 w3.heap.size M3 := (VrX.new w3 hl3).keep ((unhide HF4).blk _ (by omega) (by have := (unhide HNE).2.2; omega))
    have HV4 : Hid (RVX T p bt c w.heap.size w w4 (closeS T [] (sn (openS T [78, 79, 84] S)).2)) := ((unhide HV3).below hw3).move (unhide HP4) (unhide HF4) (unhide HNE).2.2
    have HX4 : Hid (ExM w4 (fun b => w.heap.size < b) M3 (sn (openS T [78, 79, 84] S)).1) := by
      have h1 := ltX (unhide HV2).out.1
      have h2 := (unhide HX3).below hw3
      exact h2.keep (fun b hq hl => (unhide HF4).blk b hl (by have := (unhide HNE).2.2; omega)) (fun b _ q => by omega)
    have HMF : Hid (muS T (closeS T [] (sn (openS T [78, 79, 84] S)).2) ≤ muS T S) := by
      have h1 := muS_close T [] (sn (openS T [78, 79, 84] S)).2
      have h2 := unhide HM3
      have h3 := unhide HMO
      show _ ≤ _
      omega
    have HV4' := hide hv4
    clear hst3 hsn3 hw3 hz3 hlo hv4
    refine wp_region_list ?_
    refine wpList_load_mid rfl 29 (.tmp 3) rfl w3.heap.size 0 rfl M3 _ (unhide HV4').range Tryz.underlying29 rfl (by rw [hl3]; exact sizeEx) ?_
    go_wp2_with (go_at_call 216; refine (unary_any 2 M3 _ (fun b => w.heap.size < b) w4 (unhide HX4)).mono ?_; rintro e w5 ⟨M5, rfl, hx5, hb5⟩; have hl5 := hx5.len; have hv5 := (unhide HV4).below hb5; have hst5 := hv5.out.storeC hx5.len hx5.one; have HX5 := hide hx5; have HV5 := hide hv5; clear hx5 hb5 hv5)
    have hxx : ExM w5 (fun b => w.heap.size < b) M5 (unE 2 (sn (openS T [78, 79, 84] S)).1) := (unhide HX5).keep (fun _ _ _ => rfl) (fun b _ q => by
      have h1 := ltX (unhide HV4).out.1
      rcases q with q | q
      · exact q
      · omega)
    obtain ⟨h1, h2⟩ := (unhide HV5).done (S0 := S) hxx (unhide HMF) (unhide HNE).1 (unhide HNE).2.1
    exact bodyPost_ret (h1.result rfl _ rfl) rfl (by rw [unhide HPP]; exact h2)
end Go.Proofs.YtehgoioinogmkaaGreatDoor
/- The document's parser: rows of expressions of the call's own; exprs. -/
namespace Go.Proofs.YtehgoioinogmkaaGreatDoor
open Go.RowKit Go.Lib

def toFo : List (List Value × Ex) → Fo
  | [] => .nil
  | x :: l => Fo.cons x.2.1 x.2.2 (toFo l)
theorem toFo_snoc (M : List Value) (E : Ex) : ∀ l : List (List Value × Ex), Fo.app (toFo l) (Fo.cons E.1 E.2 .nil) = toFo (l ++ [(M, E)])
  | [] => rfl
  | x :: l => by show Go.Deep.BT.node 0 0 _ _ (Fo.app (toFo l) _) = _; rw [toFo_snoc M E l]; rfl
theorem cnt_toFo : ∀ l : List (List Value × Ex), cnt (toFo l) = l.length
  | [] => rfl
  | x :: l => by show cnt (toFo l) + 1 = _; rw [cnt_toFo l]; rfl
/-- A row of expressions of the call's own. -/
structure OE (base : Nat) (w : World) (a : Option Addr) (m c : Nat) (Es : List (List Value × Ex)) : Prop where
  row : w.ownsRow base 29 10 (.slice a m c) m (Es.flatMap (·.1))
  len : m = Es.length
  ex : ∀ x ∈ Es, ExM w (fun b => base ≤ b ∧ (Value.slice a m c).ownBlock ≠ some b) x.1 x.2
theorem OE.none (w : World) : OE w.heap.size w none 0 0 [] := ⟨⟨rfl, .inl ⟨rfl, rfl⟩⟩, rfl, fun _ h => by cases h⟩
theorem OE.own {base : Nat} {w : World} {a : Option Addr} {m c : Nat} {Es : List (List Value × Ex)} (h : OE base w a m c Es) : ∀ g, (Value.slice a m c).ownBlock = some g → base ≤ g ∧ g < w.heap.size := by
  intro g hg
  rcases h.row.2 with ⟨e, _⟩ | ⟨g', cap, cur, e, hb, hc, _⟩
  · injection e with e1 _ _; subst e1; simp [Value.ownBlock] at hg
  · injection e with e1 _ _; subst e1
    simp only [Value.ownBlock, Option.some.injEq] at hg
    subst hg
    exact ⟨hb, ltX hc⟩
/-- A row stands while its own blocks do. -/
theorem OE.keep {base : Nat} {w w' : World} {a : Option Addr} {m c : Nat} {Es : List (List Value × Ex)} (h : OE base w a m c Es) (hk : ∀ b, base ≤ b → b < w.heap.size → w'.heap[b]? = w.heap[b]?) : OE base w' a m c Es := by
  refine ⟨⟨h.row.1, ?_⟩, h.len, fun x hx => (h.ex x hx).keep (fun b q hl => hk b q.1 hl) (fun _ _ q => q)⟩
  rcases h.row.2 with e | ⟨g, cap, cur, e, hb, hc, r⟩
  · exact .inl e
  · exact .inr ⟨g, cap, cur, e, hb, (hk g hb (ltX hc)).trans hc, r⟩
theorem flat_len {Es : List (List Value × Ex)} (h : ∀ x ∈ Es, x.1.length = 10) : (Es.flatMap (·.1)).length = Es.length * 10 := by
  induction Es with
  | nil => rfl
  | cons x l ih =>
    rw [List.flatMap_cons, List.length_append, h x (List.mem_cons_self ..), ih (fun y hy => h y (List.mem_cons_of_mem _ hy)), List.length_cons]
    omega
theorem row_of {w : World} {Q : Nat → Prop} {b : Nat} (hb : Q b) : ∀ {Es : List (List Value × Ex)} {o : Nat}, (∀ x ∈ Es, ExM w Q x.1 x.2) → w.rangeAt b o (Es.flatMap (·.1)) → RowAt w Q (toFo Es) b o
  | [], _, _, _ => trivial
  | x :: l, o, h, hr => by
    have hx := h x (List.mem_cons_self ..)
    have hl := hx.len
    rw [List.flatMap_cons] at hr
    have h1 : w.rangeAt b o x.1 := fun j v hj => hr j v (by rw [List.getElem?_append_left (List.getElem?_eq_some_iff.1 hj).1]; exact hj)
    have h2 : w.rangeAt b (o + 10) (l.flatMap (·.1)) := fun j v hj => by
      have := hr (10 + j) v (by rw [List.getElem?_append_right (by omega), hl, Nat.add_sub_cancel_left]; exact hj)
      rw [← Nat.add_assoc] at this
      exact this
    obtain ⟨h3, _⟩ := RowAt.one hx h1 hb
    exact ⟨h3, row_of hb (fun y hy => h y (List.mem_cons_of_mem _ hy)) h2⟩
/-- A row of one's own as a slice. -/
theorem OE.slice {base : Nat} {w : World} {a : Option Addr} {m c : Nat} {Es : List (List Value × Ex)} (h : OE base w a m c Es) : SlAt w (fun b => base ≤ b) (.slice a m c) (toFo Es) := by
  rcases h.row.2 with ⟨e, hm⟩ | ⟨g, cap, cur, e, hb, hc, h1, h2, h3, h4⟩
  · injection e with e1 e2 e3
    subst e1
    have : Es = [] := List.eq_nil_of_length_eq_zero (by rw [← h.len]; exact hm)
    subst this
    exact .inl ⟨rfl, c, by rw [hm]⟩
  · injection e with e1 e2 e3
    subst e1
    subst e3
    refine .inr ⟨g, 0, c, by rw [cnt_toFo, ← h.len], by rw [cnt_toFo, ← h.len]; exact h1, h2, ?_⟩
    refine row_of hb (fun x hx => (h.ex x hx).keep (fun _ _ _ => rfl) (fun _ _ q => q.1)) (fun j v hj => ?_)
    rw [Nat.zero_add, cellX hc]
    rw [← h4] at hj
    have hj2 := (List.getElem?_eq_some_iff.1 hj).1
    rw [List.getElem?_take_of_lt (by simp at hj2; omega)] at hj
    simpa using hj
theorem append_ex {ops : Array Oper} {rest : List Oper} {o : Oper} {act : Act} {Q' : Exit → Act → World → Prop} {base : Nat} {W : World} {a : Option Addr} {m c : Nat} {Es : List (List Value × Ex)} (hgd : o.guard = none) (s x : Operand)
    (ho : o.op = .call { callee := .builtin .append, args := #[s, x], argTypes := #[27, 27] }) (h : OE base W a m c Es) (hbase : base ≤ W.heap.size) (hs : act.eval s = .slice a m c)
    (M : List Value) (E : Ex) (hx : ExM W (fun b => base ≤ b ∧ (Value.slice a m c).ownBlock ≠ some b) M E) (hev : act.eval x = .slice (some ⟨W.heap.size, 0, none⟩) 1 1) (hn : m ≤ 1000000)
    (K : ∀ ad k w', OE base w' ad (m + 1) k (Es ++ [(M, E)]) → Below base W w' → wpList Tryz.prog ops Q' rest (act.put o.dst (.slice ad (m + 1) k)) w') : wpList Tryz.prog ops Q' (o :: rest) act (W.alloc (.cells M.toArray 29)) := by
  obtain ⟨i0, hi, hz0, hz1, hz2⟩ := info_parts Tryz.infoEx
  have hal : Below W.heap.size W (W.alloc (.cells M.toArray 29)) := (Below.refl _ _).alloc (Nat.le_refl _) _
  have hrow := own_keepX h.row hal
  refine wpList_append_own_at (W.alloc (.cells M.toArray 29)) hgd s x 27 ho base 29 i0 _ 10 120 Tryz.underlying27 hi hz0 hz1 hz2 rfl (by decide) _ m _ hs hrow ⟨W.heap.size, 0, none⟩ 1 1 M hev (by rw [hx.len]) (fun j u hj => ?_) hx.one (by unfold maxLen; omega) (by omega) (Nat.le_trans hbase hal.size) ?_
  · rw [Go.WideShapes.add_plain, Nat.zero_add, cellX (heap_alloc_new W (.cells M.toArray 29))]
    simpa using hj
  · intro v' w' ho' hg _ hown
    obtain ⟨ad, k, rfl⟩ := ownSX ho'
    refine K ad k w' ⟨?_, ?_, ?_⟩ ?_
    · rw [List.flatMap_append]; simpa using ho'
    · rw [List.length_append, ← h.len]; rfl
    · have hz : (W.alloc (.cells M.toArray 29)).heap.size = W.heap.size + 1 := by simp
      have hall : ∀ y ∈ Es ++ [(M, E)], ExM W (fun b => base ≤ b ∧ (Value.slice a m c).ownBlock ≠ some b) y.1 y.2 := by
        intro y hy
        rcases List.mem_append.1 hy with hy | hy
        · exact h.ex y hy
        · rw [List.mem_singleton.1 hy]; exact hx
      intro y hy
      refine (hall y hy).keep (fun b q hl => ?_) (fun b hl q => ⟨q.1, ?_⟩)
      · rw [hg.block b (by omega) (fun e => q.2 e.symm)]
        exact hal.block b hl
      · rcases hown with e | e
        · rw [e]; exact q.2
        · rw [e, hz]
          intro e'
          injection e' with e'
          omega
    · refine ⟨hg.os, hg.tape, hg.output, Nat.le_trans hal.size hg.size, fun b hb => ?_⟩
      rw [hg.block b (by have := hal.size; omega) (fun e => ?_)]
      · exact hal.block b (by omega)
      · have := (h.own b e.symm).1; omega
end Go.Proofs.YtehgoioinogmkaaGreatDoor
/- Expressions appended to a row of the call's own: any slice of them. -/
namespace Go.Proofs.YtehgoioinogmkaaGreatDoor
open Go.RowKit Go.Lib

/-- Expressions as a row. -/
def foE : List Ex → Fo
  | [] => .nil
  | x :: l => Fo.cons x.1 x.2 (foE l)
theorem toFo_foE : ∀ Xs : List (List Value × Ex), toFo Xs = foE (Xs.map (·.2))
  | [] => rfl
  | x :: l => by show Fo.cons _ _ (toFo l) = Fo.cons _ _ (foE (l.map (·.2))); rw [toFo_foE l]
theorem foE_snoc (E : Ex) : ∀ l : List Ex, Fo.app (foE l) (Fo.cons E.1 E.2 .nil) = foE (l ++ [E])
  | [] => rfl
  | x :: l => by show Go.Deep.BT.node 0 0 _ _ (Fo.app (foE l) _) = _; rw [foE_snoc E l]; rfl
theorem foE_app : ∀ l k : List Ex, Fo.app (foE l) (foE k) = foE (l ++ k)
  | [], _ => rfl
  | x :: l, k => by show Go.Deep.BT.node 0 0 _ _ (Fo.app (foE l) _) = _; rw [foE_app l k]; rfl
theorem cnt_foE : ∀ l : List Ex, cnt (foE l) = l.length
  | [] => rfl
  | x :: l => by show cnt (foE l) + 1 = _; rw [cnt_foE l]; rfl
theorem exprsS_foE (T : List Tk) (sub : PS → Ex × PS) : ∀ (n : Nat) (L : List Ex) (S : PS), ∃ K, (exprsS T sub n (foE L) S).1 = foE K
  | 0, L, _ => ⟨L, rfl⟩
  | n + 1, L, S => by
    rw [exprsS]
    split
    · dsimp only
      rw [foE_snoc]
      split
      · exact exprsS_foE T sub n _ _
      · exact ⟨_, rfl⟩
    · exact ⟨L, rfl⟩
/-- A row of expressions as a list of their cells. -/
theorem row_list {w : World} {Q : Nat → Prop} : ∀ (L : List Ex) {b o : Nat}, RowAt w Q (foE L) b o → ∃ Xs : List (List Value × Ex), Xs.map (·.2) = L ∧ (∀ y ∈ Xs, ExM w Q y.1 y.2) ∧ w.rangeAt b o (Xs.flatMap (·.1))
  | [], _, _, _ => ⟨[], rfl, (fun _ h => by cases h), fun j v hv => by cases hv⟩
  | (a, kids) :: L, b, off, h => by
    obtain ⟨⟨args, h1, h2, h3⟩, h4⟩ := h
    obtain ⟨Xs, e, hx, hr⟩ := row_list L h4
    refine ⟨(ndC a args, (a, kids)) :: Xs, by rw [List.map_cons, e], ?_, ?_⟩
    · intro y hy
      rcases List.mem_cons.1 hy with rfl | hy
      · exact ⟨args, rfl, h3⟩
      · exact hx y hy
    · rw [List.flatMap_cons]
      intro j v hv
      by_cases hj : j < 10
      · rw [List.getElem?_append_left (by rw [ndC_len]; exact hj)] at hv
        exact h1 j v hv
      · rw [List.getElem?_append_right (by rw [ndC_len]; omega), ndC_len] at hv
        have := hr (j - 10) v hv
        rwa [show off + 10 + (j - 10) = off + j by omega] at this
theorem flat_one {w : World} {Q : Nat → Prop} {Xs : List (List Value × Ex)} (h : ∀ y ∈ Xs, ExM w Q y.1 y.2) : ∀ u ∈ Xs.flatMap (·.1), u.oneCell' = true := by
  intro u hu
  obtain ⟨y, hy, hu⟩ := List.mem_flatMap.1 hu
  exact (h y hy).one u hu
/-- The same at an operation of a region that draws. -/
theorem append_op {o : Oper} {act : Act} {Q' : Exit → Act → World → Prop} {K : Act → World → Prop} {base : Nat} {W : World} {a : Option Addr} {m c : Nat} {Es : List (List Value × Ex)} (s x : Operand)
    (ho : o.op = .call { callee := .builtin .append, args := #[s, x], argTypes := #[27, 27] }) (h : OE base W a m c Es) (hbase : base ≤ W.heap.size) (hs : act.eval s = .slice a m c)
    (Xs : List (List Value × Ex)) (hx : ∀ y ∈ Xs, ExM W (fun b => base ≤ b ∧ (Value.slice a m c).ownBlock ≠ some b) y.1 y.2) (bx ox kx : Nat) (hev : act.eval x = .slice (some ⟨bx, ox, none⟩) Xs.length kx) (hr : W.rangeAt bx ox (Xs.flatMap (·.1))) (hn : m ≤ 1000000) (hn2 : Xs.length ≤ 1000000)
    (hK : ∀ ad k w', OE base w' ad (m + Xs.length) k (Es ++ Xs) → Below base W w' → (∀ b, b < W.heap.size → (Value.slice a m c).ownBlock ≠ some b → w'.heap[b]? = W.heap[b]?) → ((Value.slice ad (m + Xs.length) k).ownBlock = (Value.slice a m c).ownBlock ∨ (Value.slice ad (m + Xs.length) k).ownBlock = some W.heap.size) → K (act.put o.dst (.slice ad (m + Xs.length) k)) w') : o.wp Tryz.prog act W K Q' := by
  obtain ⟨i0, hi, hz0, hz1, hz2⟩ := info_parts Tryz.infoEx
  obtain ⟨v', w', hrun, ho', hg, _, hown⟩ := run_append_own_at (P := Tryz.prog) W base 27 o.type 29 i0 _ 10 120 Tryz.underlying27 hi hz0 hz1 hz2 rfl (by decide) _ m _ h.row ⟨bx, ox, none⟩ Xs.length kx (Xs.flatMap (·.1)) (flat_len (fun y hy => (hx y hy).len)) (fun j u hj => by rw [Go.WideShapes.add_plain]; exact hr j u hj) (flat_one hx) (by unfold maxLen; omega) (by omega) hbase
  obtain ⟨ad, k, rfl⟩ := ownSX ho'
  refine Lib.wp_append_run W s x 27 27 ho _ _ hs hev _ w' hrun (hK ad k w' ⟨?_, ?_, ?_⟩ ?_ (fun b hb e => hg.block b hb (fun e' => e e'.symm)) hown)
  · rw [List.flatMap_append]; simpa using ho'
  · rw [List.length_append, ← h.len]
  · have hall : ∀ y ∈ Es ++ Xs, ExM W (fun b => base ≤ b ∧ (Value.slice a m c).ownBlock ≠ some b) y.1 y.2 := by
      intro y hy
      rcases List.mem_append.1 hy with hy | hy
      · exact h.ex y hy
      · exact hx y hy
    intro y hy
    refine (hall y hy).keep (fun b q hl => ?_) (fun b hl q => ⟨q.1, ?_⟩)
    · exact hg.block b hl (fun e => q.2 e.symm)
    · rcases hown with e | e
      · rw [e]; exact q.2
      · rw [e]
        intro e'
        injection e' with e'
        omega
  · refine ⟨hg.os, hg.tape, hg.output, hg.size, fun b hb => ?_⟩
    exact hg.block b (by omega) (fun e => by have := (h.own b e.symm).1; omega)
/-- A row of one's own as a slice, whatever is known of its blocks. -/
theorem OE.sliceQ {base : Nat} {w : World} {a : Option Addr} {m c : Nat} {Es : List (List Value × Ex)} (h : OE base w a m c Es) {Q : Nat → Prop} (hx : ∀ x ∈ Es, ExM w Q x.1 x.2) (hq : ∀ g, (Value.slice a m c).ownBlock = some g → Q g) : SlAt w Q (.slice a m c) (toFo Es) := by
  rcases h.row.2 with ⟨e, hm⟩ | ⟨g, cap, cur, e, hb, hc, h1, h2, h3, h4⟩
  · injection e with e1 e2 e3
    subst e1
    have : Es = [] := List.eq_nil_of_length_eq_zero (by rw [← h.len]; exact hm)
    subst this
    exact .inl ⟨rfl, c, by rw [hm]⟩
  · injection e with e1 e2 e3
    subst e1
    subst e3
    refine .inr ⟨g, 0, c, by rw [cnt_toFo, ← h.len], by rw [cnt_toFo, ← h.len]; exact h1, h2, ?_⟩
    refine row_of (hq g (by simp [Value.ownBlock])) hx (fun j v hj => ?_)
    rw [Nat.zero_add, cellX hc]
    rw [← h4] at hj
    have hj2 := (List.getElem?_eq_some_iff.1 hj).1
    rw [List.getElem?_take_of_lt (by simp at hj2; omega)] at hj
    simpa using hj
/-- Nothing appended. -/
theorem append_op_none {o : Oper} {act : Act} {Q' : Exit → Act → World → Prop} {K : Act → World → Prop} {base : Nat} {W : World} {a : Option Addr} {m c : Nat} {Es : List (List Value × Ex)} (s x : Operand)
    (ho : o.op = .call { callee := .builtin .append, args := #[s, x], argTypes := #[27, 27] }) (h : OE base W a m c Es) (hs : act.eval s = .slice a m c) (hev : act.eval x = .slice none 0 0)
    (hK : K (act.put o.dst (.slice a m c)) W) : o.wp Tryz.prog act W K Q' := by
  obtain ⟨i0, hi, _, _, _⟩ := info_parts Tryz.infoEx
  have hrun := run_append_owned_none (P := Tryz.prog) (w := W) base 27 o.type 29 i0 10 Tryz.underlying27 hi _ m _ h.row
  exact Lib.wp_append_run W s x 27 27 ho _ _ hs hev _ W hrun hK
/-- A new row of one. -/
theorem oe_one {base : Nat} {W : World} {M : List Value} {E : Ex} (hb : base ≤ W.heap.size) (hx : ExM W (fun b => base ≤ b) M E) : OE base (W.alloc (.cells M.toArray 29)) (some ⟨W.heap.size, 0, none⟩) 1 1 [(M, E)] := by
  have hl := hx.len
  refine ⟨⟨by simp [hl], .inr ⟨W.heap.size, 1, M.toArray, rfl, hb, heap_alloc_new _ _, Nat.le_refl 1, by unfold maxLen; omega, by simp [hl], ?_⟩⟩, rfl, ?_⟩
  · simp [List.take_of_length_le, hl]
  · intro y hy
    rw [List.mem_singleton.1 hy]
    exact (hx.keep (Q' := fun b => base ≤ b ∧ (Value.slice (some ⟨W.heap.size, 0, none⟩) 1 1).ownBlock ≠ some b) (fun _ _ _ => rfl) (fun b hl q => ⟨q, fun e => by simp only [Value.ownBlock, Option.some.injEq] at e; omega⟩)).below (alX (Below.refl _ _) _)
section
variable {P : Program} {ops : Array Oper} {Q : Exit → Act → World → Prop} {md : Region.Mode} {S : World → Prop} {fin : Nat}
/-- Numbers i and j may come up: in either order. -/
theorem last_two {i j : Nat} {oi oj : Oper} {fuel : Nat} {listed : Array Bool} {a : Act} {w : World} (hr : Region.ready md ops listed = [i, j]) (hi : ops[i]? = some oi) (hj : ops[j]? = some oj)
    (h1 : ∀ K' : Act → World → Prop, Shut (∀ a w, (i ≠ fin → S w) → ((i ≠ fin → S w) → wpAnyL P md ops Q S fin fuel (listed.setIfInBounds i true) a w) → K' a w) → if Region.wanted oi (yielded ops a.tmps) = true then Oper.wp P oi a w K' Q else K' (a.put oi.dst undef) w)
    (h2 : ∀ K' : Act → World → Prop, Shut (∀ a w, (j ≠ fin → S w) → ((j ≠ fin → S w) → wpAnyL P md ops Q S fin fuel (listed.setIfInBounds j true) a w) → K' a w) → if Region.wanted oj (yielded ops a.tmps) = true then Oper.wp P oj a w K' Q else K' (a.put oj.dst undef) w) : wpAnyL P md ops Q S fin (fuel + 1) listed a w := by
  refine ⟨fun h0 => absurd (hr ▸ h0) (by simp), fun k hk => ?_⟩
  rw [hr] at hk
  rcases List.mem_cons.1 hk with rfl | hk
  · exact wpOp_step hi (fun K' hK => h1 K' (fun a w hS hW => hK a w ⟨hS, hW hS⟩))
  · obtain rfl := List.mem_singleton.1 hk
    exact wpOp_step hj (fun K' hK => h2 K' (fun a w hS hW => hK a w ⟨hS, hW hS⟩))
end
end Go.Proofs.YtehgoioinogmkaaGreatDoor
