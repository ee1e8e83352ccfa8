/- WalPlays: a call's outcome. -/
import Derived.Test.YthphadbcebeoaaaGreatDoorJWaPl0WaIn3WaPl1WaPl2WaPl3
import Derived.Laws.AppendOwnNone
namespace Go.Proofs.YthphadbcebeoaaaGreatDoor
open Go.RowKit Go.Lib Go.Maps

theorem takeS_err {s : Sta} {r : Rc} {e : Nat} (h : takeS s r = .error e) : e = 20 ∨ e = 40 := by
  unfold takeS at h
  split at h
  · split at h
    · cases h; exact .inl rfl
    · cases h
  · split at h
    · split at h
      · cases h; exact .inr rfl
      · cases h
    · split at h
      · split at h
        · cases h; exact .inr rfl
        · cases h
      · cases h
theorem recsE_two : ∀ {es : List GE}, (∀ g ∈ es, g.ok ∧ g.may = true) → (recsB (es.map rcE)).length ≤ 2 * sumE es
  | [], _ => by simp [recsB, sumE]
  | g :: es, h => by
    have q1 := h g (List.mem_cons_self ..)
    have q4 := rc_small (rcE_ok q1.1 q1.2)
    have q5 := recsE_two (es := es) (fun g' hg' => h g' (List.mem_cons_of_mem _ hg'))
    have q6 : (rcE g).ent.sql.size = g.sql.size := rfl
    have q7 : sumE (g :: es) = g.sql.size + 40 + sumE es := by simp [sumE]
    rw [List.map_cons, recsB_cons, List.length_append, q7]
    omega
/-- The record of a step of one. -/
def recOf (x : GStp) : Rc := if x.what = 0 then rcH x.term (plN x.vote) else if x.what = 4 then rcC x.index else rcD x.index x.term
theorem recOf_ok {x : GStp} (h : XOk x) : (recOf x).ok ∧ (recOf x).bytes.length ≤ 80 := by
  have key : ∀ r : Rc, r.ok → r.ent.sql.size = 0 → r.ok ∧ r.bytes.length ≤ 80 := fun r hr hs => ⟨hr, by have := rc_small hr; omega⟩
  unfold recOf
  split
  · exact key _ (rcH_ok h.term (plN_lt _)) rfl
  · split
    · exact key _ (rcC_ok h.index) rfl
    · exact key _ (rcD_ok h.index h.term) rfl
/-- The states that a step tells. -/
theorem dor_ok {s : Sta} {x : GStp} {ms : List (Sta × Value)} {c : Int} (h : DoR s x ms c) (hs : s.ok) (hn : s.es.length ≤ 900000) (hxo : XOk x) (hes : ∀ g ∈ x.es, g.ok) : EOk ms ∧ ms.length ≤ 1 + x.es.length := by
  unfold DoR at h
  split at h
  · rcases h with ⟨_, hm, _⟩ | ⟨_, rfl, _⟩
    · have hl : ms.length = x.es.length := by
        have := congrArg List.length hm
        simpa [prefS] using this
      refine ⟨fun y hy g hg => ?_, by omega⟩
      have : y.1 ∈ prefS s x.es x.es.length := by rw [← hm]; exact List.mem_map_of_mem hy
      obtain ⟨k, _, e⟩ := List.mem_map.1 this
      rw [← e] at hg
      rcases List.mem_append.1 hg with h' | h'
      · exact (hs.2.2.2.2.2 g h').1
      · exact hes g (List.mem_of_mem_take h')
    · exact ⟨fun y hy => (by cases hy), by simp⟩
  · split at h
    · rename_i s2 ht
      have hl : ms.length = 1 := by simpa using congrArg List.length h.1
      refine ⟨fun y hy g hg => ?_, by omega⟩
      have : y.1 ∈ [s2] := by rw [← h.1]; exact List.mem_map_of_mem hy
      rw [List.mem_singleton.1 this] at hg
      exact ((takeS_ok hs (recOf_ok hxo).1 (by omega) ht).2.2.2.2.2 g hg).1
    · rw [h.1]
      exact ⟨fun y hy => (by cases hy), by simp⟩
/-- What a call comes to. -/
def OutC (w2 w' : World) (p nb xb : Nat) (x : GStp) (vn mv nv : Value) (M ms : List (Sta × Value)) (n : Nat) (rs : List Rc) (ns : Nat) (pr : Bool) (s : Sta) (c : Int) (ve : Value) : Prop :=
  (c = 0 ∧ ve = .nilIface ∧ ∃ rs' s' S', S'.off = false ∧ PJ w2 w' p nb xb x vn mv nv M ms n rs' ns true s' s S' ∧ MayI rs' ns (M ++ ms) ∧ ((ms = [] ∧ s' = s) ∨ ∃ y, 0 < ms.length ∧ ms[ms.length - 1]? = some y ∧ y.1 = s') ∧ rs'.length ≤ rs.length + 12 ∧ (recsB rs').length ≤ (recsB rs).length + 2 * sumE x.es + 100 ∧ s'.es.length ≤ s.es.length + 12) ∨
  (c = 0 ∧ ∃ T b S', ve = .iface T (.pointer (some ⟨b, 0, none⟩)) ∧ ErrX w' ve 32 ∧ PJ w2 w' p nb xb x vn mv nv M ms n rs ns pr s s S') ∨
  (c ≠ 0 ∧ c ≠ 32 ∧ ∃ T b S', ve = .iface T (.pointer (some ⟨b, 0, none⟩)) ∧ ErrX w' ve c ∧ S'.off = false ∧ PJ w2 w' p nb xb x vn mv nv M ms n rs ns pr s s S')
section
variable {w2 wx w' : World} {p nb xb i n ns : Nat} {x : GStp} {vn mv nv vl : Value} {M ms : List (Sta × Value)} {xs : List GStp} {rs : List Rc} {pr : Bool} {s s2 : Sta} {S : Dk.St} {c : Int} {fn : FuncId} {args : Array Value} {r : Rc} {e : Ending} {O : Nat → Prop}
theorem pj_done {rs' : List Rc} {S' : Dk.St} {ns' : Nat} {pr' : Bool} (h2 : Below w2.heap.size w2 wx) (h1 : WZ wx w2.heap.size p w2.heap.size 65536 rs ns pr s (n + 1) S O) (h3 : PRz wx nb s vn mv M O) (h4 : NX wx xb x nv ms O) (h5 : PH5 w2 nb xb mv) (hd : SDone wx w2.heap.size p w2.heap.size 65536 rs' ns' pr' s2 n S' O e w') : e = .returned .nilIface ∧ PJ w2 w' p nb xb x vn mv nv M ms n rs' ns' pr' s2 s S' := by
  obtain ⟨O', rfl, q1, q2, q3⟩ := hd
  exact ⟨rfl, O', q1, h2.trans (fro_below q2 h1.bo h2.size), h3.fro q2 q3, h4.fro q2 q3, h5⟩
theorem pj_bad {S' : Dk.St} (h2 : Below w2.heap.size w2 wx) (h1 : WZ wx w2.heap.size p w2.heap.size 65536 rs ns pr s (n + 1) S O) (h3 : PRz wx nb s vn mv M O) (h4 : NX wx xb x nv ms O) (h5 : PH5 w2 nb xb mv) (hd : SBad wx w2.heap.size p w2.heap.size 65536 rs ns pr s n S' O c e w') : ∃ T b, e = .returned (.iface T (.pointer (some ⟨b, 0, none⟩))) ∧ ErrX w' (.iface T (.pointer (some ⟨b, 0, none⟩))) c ∧ PJ w2 w' p nb xb x vn mv nv M ms n rs ns pr s s S' := by
  obtain ⟨T, b, O', rfl, he, q1, q2, q3⟩ := hd
  exact ⟨T, b, rfl, he, O', q1, h2.trans (fro_below q2 h1.bo h2.size), h3.fro q2 q3, h4.fro q2 q3, h5⟩
theorem last_of {s2 : Sta} (h : ms.map Prod.fst = [s2]) : ∃ y, 0 < ms.length ∧ ms[ms.length - 1]? = some y ∧ y.1 = s2 := by
  match ms, h with
  | [y], h => exact ⟨y, by simp, rfl, by simpa using h⟩
/-- A call of one record. -/
theorem pj_one (hF : OneOf fn args p (recOf x) wx) (h : PJ w2 wx p nb xb x vn mv nv M ms (n + 1) rs ns pr s s S) (hon : S.off = false) (hw : ¬ (x.what = 1 ∨ x.what = 2 ∨ x.what = 3)) (hd : DoR s x ms c) (hxo : XOk x) (hM : MayI rs ns M) (hz : (recsB rs).length + 80 ≤ 32768) (hn : s.es.length ≤ 800000) :
    Calls Tryz.prog fn args wx fun e w' => ∃ ve, e = .returned ve ∧ OutC w2 w' p nb xb x vn mv nv M ms n rs ns pr s c ve := by
  obtain ⟨O, h1, h2, h3, h4, h5⟩ := h
  obtain ⟨hr, hrl⟩ := recOf_ok hxo
  unfold DoR at hd
  rw [if_neg hw] at hd
  have hd : match takeS s (recOf x) with | .ok s2 => ms.map Prod.fst = [s2] ∧ c = 0 | .error e => ms = [] ∧ c = (e : Int) := hd
  refine (ws_one hF h1 rfl hr (by omega) hn).mono fun e w' ho => ?_
  cases ht : takeS s (recOf x) with
  | ok s2 =>
    rw [ht] at ho hd
    rcases ho with ⟨hf, ho⟩ | ⟨hf, ho⟩
    · obtain ⟨rfl, hp⟩ := pj_done h2 h1 h3 h4 h5 ho
      refine ⟨_, rfl, .inl ⟨hd.2, rfl, _, _, _, nx_off hf, hp, mayI_more hM h1.info.1 (one_path ht hd.1), .inr (last_of hd.1), by simp, ?_, ?_⟩⟩
      · rw [recsB_app]
        simp [recsB]
        omega
      · have := takeS_len ht
        omega
    · obtain ⟨T, b, rfl, he, hp⟩ := pj_bad h2 h1 h3 h4 h5 ho
      exact ⟨_, rfl, .inr (.inl ⟨hd.2, T, b, _, rfl, he, hp⟩)⟩
  | error k =>
    rw [ht] at ho hd
    obtain ⟨T, b, rfl, he, hp⟩ := pj_bad h2 h1 h3 h4 h5 ho
    rw [hd.2]
    have hk := takeS_err ht
    exact ⟨_, rfl, .inr (.inr ⟨by omega, by omega, T, b, _, rfl, he, hon, hp⟩)⟩
/-- Append. -/
theorem pj_app (h : PJ w2 wx p nb xb x vn mv nv M ms (n + 1) rs ns pr s s S) (hon : S.off = false) (hw : x.what = 1 ∨ x.what = 2 ∨ x.what = 3) (hd : DoR s x ms c) (hl : RE wx vl x.es) (hok : ∀ g ∈ x.es, g.ok) (hsz : StpOk x) (hM : MayI rs ns M) (hz : (recsB rs).length + 2 * sumE x.es ≤ 32768) (hn : s.es.length ≤ 800000) :
    Calls Tryz.prog 11 #[.pointer (some ⟨p, 0, none⟩), vl] wx fun e w' => ∃ ve, e = .returned ve ∧ OutC w2 w' p nb xb x vn mv nv M ms n rs ns pr s c ve := by
  obtain ⟨O, h1, h2, h3, h4, h5⟩ := h
  unfold DoR at hd
  rw [if_pos hw] at hd
  refine (ws_app h1 rfl hl hok ⟨hsz.1, hsz.2.1⟩ (fun hm => ?_) hn).mono fun e w' ho => ?_
  · have := recsE_two (es := x.es) (fun g hg => ⟨hok g hg, hm g hg⟩)
    omega
  · rcases ho with ⟨hm, ho⟩ | ⟨hm, ho⟩
    · rcases hd with ⟨_, hd1, hd2⟩ | ⟨hm', _⟩
      · rcases ho with ⟨hf, ho⟩ | ⟨hf, ho⟩
        · obtain ⟨rfl, hp⟩ := pj_done h2 h1 h3 h4 h5 ho
          have hrl := recsE_two (es := x.es) (fun g hg => ⟨hok g hg, hm g hg⟩)
          have h12 := hsz.1
          have hml : ms.length = x.es.length := by simpa [prefS] using congrArg List.length hd1
          refine ⟨_, rfl, .inl ⟨hd2, rfl, _, _, _, nx_off hf, hp, mayI_more hM h1.info.1 (ents_path hd1), ?_, by simp; omega, ?_, by simp; omega⟩⟩
          · rcases Nat.eq_zero_or_pos x.es.length with h0 | h0
            · have e0 : x.es = [] := List.eq_nil_of_length_eq_zero h0
              refine .inl ⟨List.eq_nil_of_length_eq_zero (by omega), ?_⟩
              rw [e0, List.append_nil]
            · have hy : ms[ms.length - 1]? = some ms[ms.length - 1] := List.getElem?_eq_getElem (by omega)
              refine .inr ⟨_, by omega, hy, ?_⟩
              have h6 : (ms.map Prod.fst)[ms.length - 1]? = some (ms[ms.length - 1]).1 := by rw [List.getElem?_map, hy]; rfl
              rw [hd1] at h6
              unfold prefS at h6
              rw [List.getElem?_map, List.getElem?_range (by omega)] at h6
              have h7 := Option.some.inj h6
              rw [← h7]
              dsimp only
              have : ms.length - 1 + 1 = x.es.length := by omega
              rw [this, List.take_length]
          · rw [recsB_app, List.length_append]
            omega
        · obtain ⟨T, b, rfl, he, hp⟩ := pj_bad h2 h1 h3 h4 h5 ho
          exact ⟨_, rfl, .inr (.inl ⟨hd2, T, b, _, rfl, he, hp⟩)⟩
      · exact absurd hm hm'
    · rcases hd with ⟨hm', _⟩ | ⟨_, hd1, hd2⟩
      · exact absurd hm' hm
      · obtain ⟨T, b, rfl, he, hp⟩ := pj_bad h2 h1 h3 h4 h5 ho
        exact ⟨_, rfl, .inr (.inr ⟨by omega, by omega, T, b, _, rfl, by rw [hd2]; exact he, hon, hp⟩)⟩
end
end Go.Proofs.YthphadbcebeoaaaGreatDoor
/- WalPlays: the row of those that may be, longer; the state now, another. -/
namespace Go.Proofs.YthphadbcebeoaaaGreatDoor
open Go.RowKit Go.Lib Go.Maps

/-- Behind a call: as PJ, wherever the row lies. -/
def PQ (w2 wx : World) (p nb xb : Nat) (x : GStp) (vn mv nv : Value) (M ms : List (Sta × Value)) (n : Nat) (rs : List Rc) (ns : Nat) (pr : Bool) (s t : Sta) (S : Dk.St) : Prop :=
  ∃ O, WZ wx w2.heap.size p w2.heap.size 65536 rs ns pr s n S O ∧ Below w2.heap.size w2 wx ∧ PRz wx nb t vn mv M O ∧ NX wx xb x nv ms O ∧ w2.heap.size ≤ nb ∧ nb < xb
theorem msC_one (ms : List (Sta × Value)) (h : ∀ y ∈ ms, ∃ a n k, y.2 = .slice a n k) : ∀ u ∈ msC ms, u.oneCell' = true := fun u hu => by
  unfold msC at hu
  obtain ⟨y, hy, hu⟩ := List.mem_flatMap.1 hu
  obtain ⟨a, n, k, e⟩ := h y hy
  simp [stC] at hu
  rcases hu with rfl | rfl | rfl | rfl | rfl
  · rfl
  · rfl
  · rfl
  · rfl
  · rw [e]; rfl
theorem msC_get : ∀ (ms : List (Sta × Value)) (i j : Nat) (y : Sta × Value), ms[i]? = some y → j < 5 → (msC ms)[i * 5 + j]? = (stC y.1 y.2)[j]?
  | [], i, j, y, h, _ => by simp at h
  | z :: ms, 0, j, y, h, hj => by
    simp at h
    subst h
    rw [msC, List.flatMap_cons, Nat.zero_mul, Nat.zero_add, List.getElem?_append_left (by simpa [stC] using hj)]
  | z :: ms, i + 1, j, y, h, hj => by
    have := msC_get ms i j y (by simpa using h) hj
    rw [msC, List.flatMap_cons, List.getElem?_append_right (by simp [stC]; omega)]
    have e : (i + 1) * 5 + j - (stC z.1 z.2).length = i * 5 + j := by simp [stC]; omega
    rw [e]
    exact this
/-- A state of a row. -/
theorem own_st {w : World} {B : Nat} {v : Value} {ms : List (Sta × Value)} {i : Nat} {y : Sta × Value} (h : w.ownsRow B 56 5 v ms.length (msC ms)) (hi : ms[i]? = some y) : ∃ b cap, v = .slice (some ⟨b, 0, none⟩) ms.length cap ∧ ∀ j u, (stC y.1 y.2)[j]? = some u → w.cell? ⟨b, i * 5 + j, none⟩ = some u := by
  have hil := (List.getElem?_eq_some_iff.1 hi).1
  obtain ⟨_, ⟨_, h0⟩ | ⟨g, cap, cur, h1, h2, h3, h4, h5, h6, h7⟩⟩ := h
  · omega
  · refine ⟨g, cap, h1, fun j u hj => ?_⟩
    have hj5 : j < 5 := by have := (List.getElem?_eq_some_iff.1 hj).1; simpa [stC] using this
    rw [(Dk.cellB h3 _).1, ← Array.getElem?_toList]
    have := msC_get ms i j y hi hj5
    rw [hj, ← h7, List.getElem?_take] at this
    split at this
    · exact this
    · cases this
theorem errx_at {w w' : World} {ve : Value} {c : Int} (h : ErrX w ve c) (hk : ∀ b, (∃ T d, w.cell? ⟨b, 1, none⟩ = some (.iface T d)) → w'.heap[b]? = w.heap[b]?) : ErrX w' ve c := by
  rcases h with ⟨b, pl, rfl, h1, h2⟩ | ⟨b, rfl, h⟩
  · have e := hk b ⟨_, _, h2⟩
    exact .inl ⟨b, pl, rfl, (World.cell?_of_block e).trans h1, (World.cell?_of_block e).trans h2⟩
  · have e := hk b ⟨_, _, h⟩
    exact .inr ⟨b, rfl, (World.cell?_of_block e).trans h⟩
/-- A row of states is no error's block. -/
theorem own_noerr {w : World} {B : Nat} {v : Value} {M : List (Sta × Value)} {b : Nat} {T : TypeId} {d : Value} (h : w.ownsRow B 56 5 v M.length (msC M)) (hM : M ≠ []) (hb : v.ownBlock = some b) (hc : w.cell? ⟨b, 1, none⟩ = some (.iface T d)) : False := by
  obtain ⟨y, hy⟩ : ∃ y, M[0]? = some y := ⟨M[0]'(List.length_pos_iff.2 hM), List.getElem?_eq_getElem _⟩
  obtain ⟨b', cap, e, hcc⟩ := own_st h hy
  subst e
  cases hb
  have := hcc 1 _ rfl
  rw [Nat.zero_mul, Nat.zero_add] at this
  dsimp only at hc
  rw [this] at hc
  cases hc
theorem may_some {rs : List Rc} {ns : Nat} {s : Sta} {M : List (Sta × Value)} (h : MayI rs ns M) (hr : runS sta0 rs = .ok s) (hn : ns ≤ rs.length) : M ≠ [] := fun e => by
  obtain ⟨sk, hsk, _⟩ := runS_part (rs := rs.take ns) (qs := rs.drop ns) (by rw [List.take_append_drop]; exact hr)
  obtain ⟨y, hy, _⟩ := h ns sk (Nat.le_refl _) hn hsk
  rw [e] at hy
  cases hy
section
variable {w2 wx w' : World} {p nb xb n ns : Nat} {x : GStp} {vn mv nv : Value} {M ms : List (Sta × Value)} {rs : List Rc} {pr : Bool} {s t t' : Sta} {S : Dk.St}
/-- may = append(may, next...). -/
theorem wpList_append_st {ops : Array Oper} {rest : List Oper} {o : Oper} {a : Act} {Q : Exit → Act → World → Prop} (hgd : o.guard = none) (sx xx : Operand)
    (ho : o.op = .call { callee := .builtin .append, args := #[sx, xx], argTypes := #[57, 57] }) (hs : a.eval sx = mv) (hx : a.eval xx = nv)
    (h : PJ w2 wx p nb xb x vn mv nv M ms n rs ns pr s t S) (hxn : nb < xb) (hl : M.length + ms.length ≤ 100000)
    (hk : ∀ mv' w', (∃ ma mk, mv' = .slice ma (M.length + ms.length) mk) → PQ w2 w' p nb xb x vn mv' nv (M ++ ms) ms n rs ns pr s t S → (∀ ve c, M ≠ [] → ErrX wx ve c → ErrX w' ve c) → wpList Tryz.prog ops Q rest (a.put o.dst mv') w') : wpList Tryz.prog ops Q (o :: rest) a wx := by
  obtain ⟨O, h1, h2, h3, h4, h5, h6⟩ := h
  obtain ⟨i0, hi, hz0, hz1, hz2⟩ := info_parts Tryz.infoSt
  rcases id h4.row with ⟨e1, ⟨rfl, e2⟩ | ⟨g, cap, cur, rfl, k2, k3, k4, k5, k6, k7⟩⟩
  · have hms : ms = [] := List.eq_nil_of_length_eq_zero e2
    subst hms
    refine wpList_append_own_none hgd sx xx 57 ho (nb + 1) 56 i0 5 Tryz.underlying57 hi mv M.length (msC M) hs h3.row hx (hk _ _ ?_ ?_ (fun _ _ _ h => h))
    · rcases h3.row.2 with ⟨rfl, e⟩ | ⟨g, cap, cur, e, _⟩
      · exact ⟨none, 0, by rw [e]; rfl⟩
      · exact ⟨_, cap, e⟩
    · rw [List.append_nil]
      exact ⟨O, h1, h2, h3, h4, h5, hxn⟩
  · refine wpList_append_own_at _ hgd sx xx 57 ho (nb + 1) 56 i0 _ 5 56 Tryz.underlying57 hi hz0 hz1 hz2 rfl (by decide) mv M.length (msC M) hs h3.row ⟨g, 0, none⟩ ms.length cap (msC ms) hx (msC_len ms) (fun j u hu => ?_) (msC_one ms (fun y hy => ?_)) (by unfold maxLen; omega) (by omega) ?_ ?_
    · rw [Go.WideShapes.add_plain, Nat.zero_add, (Dk.cellB k3 _).1, ← Array.getElem?_toList]
      rw [← k7, List.getElem?_take] at hu
      split at hu
      · exact hu
      · cases hu
    · obtain ⟨a', k', e, _, _⟩ := (h4.els y hy).1.slice
      exact ⟨_, _, _, e⟩
    · have := (Array.getElem?_eq_some_iff.1 h3.now).1
      omega
    · intro v' w' hown hg _ hlb
      obtain ⟨q1, q2⟩ := h3.more h1.lt hown hg hlb h4.els
      have hgb : ∀ k, k < wx.heap.size → (∀ b, mv.ownBlock = some b → k ≠ b) → w'.heap[k]? = wx.heap[k]? := fun k hk hne => hg.block k hk (fun e => hne k e.symm rfl)
      have hlo : ∀ b, mv.ownBlock = some b → nb + 1 ≤ b := fun b hb => (own_block h3.row hb).1
      have hB : Below w2.heap.size wx w' := ⟨hg.os, hg.tape, hg.output, hg.size, fun k hk => hgb k (by have := h2.size; omega) (fun b hb e => by have := hlo b hb; omega)⟩
      refine hk v' w' ?_ ⟨O, h1.keep hg.size (fun k hk => q2 k (h1.lt k hk) hk) hB, h2.trans hB, q1, ?_, h5, hxn⟩ (fun ve c hM he => errx_at he (fun b ⟨T, d, hc⟩ => hgb b (lt_of_cell hc) (fun b' hb' e => own_noerr h3.row hM (e ▸ hb') hc)))
      · rcases hown.2 with ⟨rfl, e⟩ | ⟨g', cap', cur', e, _⟩
        · exact ⟨none, 0, by rw [e]⟩
        · exact ⟨_, cap', e⟩
      · have hxl := (Array.getElem?_eq_some_iff.1 h4.xc).1
        refine ⟨h4.xO, (hgb xb hxl (fun b hb e => by have := h6 b hb; omega)).trans h4.xc, own_keep h4.row (fun b hb => hgb b (by obtain ⟨_, c, hc⟩ := own_block h4.row hb; exact (Array.getElem?_eq_some_iff.1 hc).1) (fun b' hb' e => by have := h6 b' hb'; have := (own_block h4.row hb).1; omega)), h4.rowO, fun y hy => ⟨(h4.els y hy).1.keep (fun q hq => hgb q ((h4.els y hy).1.lt hq) (fun b hb e => ?_)), (h4.els y hy).2⟩⟩
        obtain ⟨_, c, hc⟩ := own_block h3.row hb
        rw [← e] at hc
        exact el_ne (h4.els y hy).1 hc (by decide) hq
/-- now = another state. -/
theorem PQ.turn {y : Sta × Value} (h : PQ w2 wx p nb xb x vn mv nv M ms n rs ns pr s t S) (hy : EL wx y.2 y.1.es) (hyO : ∀ O, NX wx xb x nv ms O → ∀ g, inB y.2 g → ¬ O g) (hw : w'.heap = (((((wx.setCell ⟨nb, 0, none⟩ (.int .u64 (y.1.term : Int))).setCell ⟨nb, 1, none⟩ (.int .i64 ((y.1.vote : Int) - 1))).setCell ⟨nb, 2, none⟩ (.int .u64 (y.1.base : Int))).setCell ⟨nb, 3, none⟩ (.int .u64 (y.1.bt : Int))).setCell ⟨nb, 4, none⟩ y.2).heap) (henv : Dk.Env wx w') : PQ w2 w' p nb xb x y.2 mv nv M ms n rs ns pr s y.1 S := by
  obtain ⟨O, h1, h2, h3, h4, h5, h6⟩ := h
  obtain ⟨q1, q2, q3⟩ := h3.turn hw hy (hyO O h4)
  have hB : Below w2.heap.size wx w' := ⟨henv.1, henv.2.1, henv.2.2, by omega, fun k hk => q2 k (by omega)⟩
  refine ⟨O, h1.keep (by omega) (fun k hk => q2 k (fun e => h3.nO (e ▸ hk))) hB, h2.trans hB, q1, ?_, h5, h6⟩
  refine ⟨h4.xO, (q2 xb (by omega)).trans h4.xc, own_keep h4.row (fun b hb => q2 b (by have := (own_block h4.row hb).1; omega)), h4.rowO, fun z hz => ⟨(h4.els z hz).1.keep (fun g hg => q2 g (fun e => ?_)), (h4.els z hz).2⟩⟩
  have := el_ne (h4.els z hz).1 h3.now (by decide)
  exact this (e ▸ hg)
theorem PQ.below (h : PQ w2 wx p nb xb x vn mv nv M ms n rs ns pr s t S) (hb : Below wx.heap.size wx w') : PQ w2 w' p nb xb x vn mv nv M ms n rs ns pr s t S := by
  obtain ⟨O, h1, h2, h3, h4, h5⟩ := h
  exact ⟨O, h1.below hb, h2.trans (hb.mono h2.size), h3.below hb, h4.below hb, h5⟩
theorem PJ.cells (h : PJ w2 wx p nb xb x vn mv nv M ms n rs ns pr s t S) : (wx.cell? ⟨nb, 0, none⟩ = some (.int .u64 (t.term : Int)) ∧ wx.cell? ⟨nb, 1, none⟩ = some (.int .i64 ((t.vote : Int) - 1)) ∧ wx.cell? ⟨nb, 2, none⟩ = some (.int .u64 (t.base : Int)) ∧ wx.cell? ⟨nb, 3, none⟩ = some (.int .u64 (t.bt : Int)) ∧ wx.cell? ⟨nb, 4, none⟩ = some vn) ∧ wx.cell? ⟨xb, 0, none⟩ = some (.int .i64 x.what) ∧ wx.cell? ⟨xb, 1, none⟩ = some (.int .i64 x.num) ∧ wx.cell? ⟨xb, 2, none⟩ = some (.int .u64 (x.index : Int)) ∧ wx.cell? ⟨xb, 3, none⟩ = some (.int .u64 (x.term : Int)) ∧ wx.cell? ⟨xb, 4, none⟩ = some (.int .i64 x.vote) ∧ wx.cell? ⟨xb, 5, none⟩ = some x.l ∧ wx.cell? ⟨xb, 6, none⟩ = some x.k := by
  obtain ⟨O, h1, h2, h3, h4, h5⟩ := h
  exact ⟨h3.cells, h4.cells⟩
theorem PQ.cells (h : PQ w2 wx p nb xb x vn mv nv M ms n rs ns pr s t S) : (wx.cell? ⟨nb, 0, none⟩ = some (.int .u64 (t.term : Int)) ∧ wx.cell? ⟨nb, 1, none⟩ = some (.int .i64 ((t.vote : Int) - 1)) ∧ wx.cell? ⟨nb, 2, none⟩ = some (.int .u64 (t.base : Int)) ∧ wx.cell? ⟨nb, 3, none⟩ = some (.int .u64 (t.bt : Int)) ∧ wx.cell? ⟨nb, 4, none⟩ = some vn) ∧ wx.cell? ⟨xb, 0, none⟩ = some (.int .i64 x.what) ∧ wx.cell? ⟨xb, 1, none⟩ = some (.int .i64 x.num) ∧ wx.cell? ⟨xb, 2, none⟩ = some (.int .u64 (x.index : Int)) ∧ wx.cell? ⟨xb, 3, none⟩ = some (.int .u64 (x.term : Int)) ∧ wx.cell? ⟨xb, 4, none⟩ = some (.int .i64 x.vote) ∧ wx.cell? ⟨xb, 5, none⟩ = some x.l ∧ wx.cell? ⟨xb, 6, none⟩ = some x.k := by
  obtain ⟨O, h1, h2, h3, h4, h5⟩ := h
  exact ⟨h3.cells, h4.cells⟩
theorem PJ.ev (h : PJ w2 wx p nb xb x vn mv nv M ms n rs ns pr s t S) : Below w2.heap.size w2 wx ∧ ET wx ∧ s.ok ∧ (∃ a k, vn = .slice a t.es.length k) := by
  obtain ⟨O, h1, h2, h3, h4, h5⟩ := h
  obtain ⟨a, k, e, _⟩ := h3.el.slice
  exact ⟨h2, h1.info.2.2.2.2.1.et, h1.info.2.2.2.1, a, k, e⟩
theorem OutC.below {c : Int} {ve : Value} (h : OutC w2 wx p nb xb x vn mv nv M ms n rs ns pr s c ve) (hb : Below wx.heap.size wx w') : OutC w2 w' p nb xb x vn mv nv M ms n rs ns pr s c ve := by
  rcases h with ⟨h1, h2, rs', s', S', h3, h4, h5⟩ | ⟨h1, T, b, S', h2, h3, h4⟩ | ⟨h1, h2, T, b, S', h3, h4, h5, h6⟩
  · exact .inl ⟨h1, h2, rs', s', S', h3, h4.below hb, h5⟩
  · exact .inr (.inl ⟨h1, T, b, S', h2, h3.below hb, h4.below hb⟩)
  · exact .inr (.inr ⟨h1, h2, T, b, S', h3, h4.below hb, h5, h6.below hb⟩)
/-- Behind the switch. -/
def PK (w2 wx : World) (p nb xb : Nat) (x : GStp) (vn mv : Value) (M : List (Sta × Value)) (i : Nat) (xs : List GStp) (fl : Bool) (ve : Value) : Prop :=
  ∃ rs ns pr s S nv ms, PQ w2 wx p nb xb x vn mv nv M ms (9000 - 10 * i - 5) rs ns pr s s S ∧ MayI rs ns M ∧ EOk M ∧ SzI xs (i + 1) rs s M ∧ ((fl = false ∧ S.off = false ∧ (ve = .nilIface ∨ ∃ T b c, ve = .iface T (.pointer (some ⟨b, 0, none⟩)) ∧ c ≠ 32 ∧ ErrX wx ve c)) ∨ (fl = true ∧ ∃ T b, ve = .iface T (.pointer (some ⟨b, 0, none⟩)) ∧ ErrX wx ve 32))
end
end Go.Proofs.YthphadbcebeoaaaGreatDoor
