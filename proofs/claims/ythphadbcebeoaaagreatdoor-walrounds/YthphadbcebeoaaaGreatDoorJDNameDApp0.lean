/- Names of files. -/
import Derived.Test.YthphadbcebeoaaaGreatDoorJDErrsDState
import Derived.Deep.RegionWith
import Derived.Test.YthphadbcebeoaaaGreatDoorJShelfDListDPut
import Derived.Laws.AppendOwnNone
namespace Go.Proofs.YthphadbcebeoaaaGreatDoor.Dk
open Go.RowKit Go.Lib Go.Maps

/-- May a byte be in a name? -/
def okB (c : UInt8) : Bool := (97 ≤ c.toNat ∧ c.toNat ≤ 122) || (48 ≤ c.toNat ∧ c.toNat ≤ 57) || c.toNat == 46 || c.toNat == 45 || c.toNat == 95
/-- May these bytes be a name? -/
def okN (l : List UInt8) : Bool := decide (l ≠ [] ∧ l.length ≤ 40) && l.all okB

set_option maxHeartbeats 1600000 in
theorem nameByte_any (c : UInt8) (w : World) : Calls Tryz.prog 89 #[.int .u8 (c.toNat : Int)] w fun e w' => e = .returned (.bool (okB c)) ∧ w' = w := by
  unfold okB
  generalize c.toNat = n
  by_cases h1 : (97 : Int) ≤ (n : Int) <;> by_cases h2 : (n : Int) ≤ 122 <;> by_cases h3 : (48 : Int) ≤ (n : Int) <;> by_cases h4 : (n : Int) ≤ 57 <;> first | (exfalso; omega) | skip
  all_goals
    go_enter Tryz.func89, Tryz.ntmps89
    go_wp2
    all_goals
      go_ret
      refine ⟨congrArg Ending.returned (congrArg Value.bool (?_ : (_ : Bool) = _)), rfl⟩
      rw [Bool.eq_iff_iff]
      first | (simp; omega) | (simp; done) | (simp <;> omega)

theorem okN_no {l : List UInt8} (h : l = [] ∨ 40 < l.length) : okN l = false := by
  unfold okN
  have : ¬ (l ≠ [] ∧ l.length ≤ 40) := by rintro ⟨h1, h2⟩; rcases h with h | h; exact h1 h; omega
  simp only [decide_eq_false this, Bool.false_and]

set_option maxHeartbeats 3200000 in
theorem nameMayBe_any (s : ByteArray) (w : World) (hs : s.size ≤ maxLen) : Calls Tryz.prog 70 #[.string s] w fun e w' => e = .returned (.bool (okN s.data.toList)) ∧ w' = w := by
  have hsz : s.data.toList.length = s.size := by rw [Array.length_toList]; rfl
  by_cases h0 : s = ByteArray.empty
  · subst h0
    go_enter Tryz.func70, Tryz.ntmps70
    go_wp2
    go_ret
    refine ⟨?_, rfl⟩
    have : okN ByteArray.empty.data.toList = false := okN_no (.inl rfl)
    rw [this]; rfl
  · have hne : ¬ s.toList = [] := by
      have e1 := decide_eq_emptyBytes s
      rw [decide_eq_false h0] at e1
      intro e2
      rw [e2] at e1
      cases e1
    have hie : s.toList.isEmpty = false := by
      rw [← decide_eq_emptyBytes s]; exact decide_eq_false h0
    by_cases h40 : (40 : Int) < (s.size : Int)
    · go_enter Tryz.func70, Tryz.ntmps70
      go_wp2
      go_ret
      refine ⟨?_, rfl⟩
      rw [okN_no (.inr (by omega))]; rfl
    · go_enter Tryz.func70, Tryz.ntmps70
      go_wp2
      go_loopw [13] (fun i wr => ∃ k : Nat, k ≤ s.size ∧ i = .int .i64 k ∧ wr = w ∧ Hid ((s.data.toList.take k).all okB = true)) (fun i _ => s.size - (intOf i).toNat)
      case atStart => exact ⟨0, by omega, rfl, rfl, rfl⟩
      case round =>
        obtain ⟨k, hk, rfl, rfl, hall⟩ := hrel
        by_cases hlt : k < s.size
        · have hki : (k : Int) < (s.size : Int) := by omega
          have hk0 : (0 : Int) ≤ (k : Int) := by omega
          have HB := hide (nameByte_any s[k] wr)
          have hkl : k < s.data.toList.length := by rw [hsz]; exact hlt
          have htake : Hid (s.data.toList.take (k + 1) = s.data.toList.take k ++ [s[k]]) := by
            have := List.take_succ_eq_append_getElem (l := s.data.toList) hkl
            rw [this]; rfl
          have hmem : Hid (s[k] ∈ s.data.toList) := List.getElem_mem (l := s.data.toList) hkl
          by_cases hok : okB s[k] = true
          · rw [hok] at HB
            go_wp2_with (first | (go_at_call 89; refine (unhide HB).mono ?_; rintro e w1 ⟨rfl, rfl⟩))
            go_roundw
            case rel =>
              refine ⟨k + 1, by omega, by go_num, (by first | rfl | trivial), ?_⟩
              have h1 := unhide hall
              have h2 := unhide htake
              show (s.data.toList.take (k + 1)).all okB = true
              rw [h2, List.all_append, h1]
              simp [hok]
            case measure => simp [intOf]; omega
          · have hok' : okB s[k] = false := by simpa using hok
            rw [hok'] at HB
            go_wp2_with (first | (go_at_call 89; refine (unhide HB).mono ?_; rintro e w1 ⟨rfl, rfl⟩))
            go_ret
            refine ⟨?_, rfl⟩
            have : okN s.data.toList = false := by
              unfold okN
              have : s.data.toList.all okB = false := by
                rw [List.all_eq_false]
                exact ⟨_, unhide hmem, by simpa using hok⟩
              rw [this, Bool.and_false]
            rw [this]; rfl
        · have hki : ¬ ((k : Int) < (s.size : Int)) := by omega
          go_wp2
          go_ret
          refine ⟨?_, rfl⟩
          have h1 := unhide hall
          have hke : k = s.data.toList.length := by omega
          rw [hke, List.take_length] at h1
          have : okN s.data.toList = true := by
            unfold okN
            rw [h1, Bool.and_true]
            refine decide_eq_true ⟨?_, by omega⟩
            intro e
            have e2 := congrArg List.length e
            rw [hsz] at e2
            exact h0 (ByteArray.ext (Array.eq_empty_of_size_eq_zero e2))
          rw [this]; rfl
end Go.Proofs.YthphadbcebeoaaaGreatDoor.Dk
/- What append does to a file; a file's entry changed in its place. -/
namespace Go.Proofs.YthphadbcebeoaaaGreatDoor.Dk
open Go.RowKit Go.Lib Go.Maps Go.WideMaps

theorem Tryz.infoB : (Tryz.prog.info? 5).map (fun i => (i.zero, i.size, i.bytes)) = some (some (.int .u8 0), 1, 1) := by kernel_rfl

/-- A slice that reads as these bytes, in no block of the disk. -/
def RBo (w : World) (O : Nat → Prop) (v : Value) (l : List UInt8) : Prop :=
  l.length ≤ 1000000000 ∧ ((v = .slice none 0 0 ∧ l = []) ∨
    ∃ b off cap, b < w.heap.size ∧ ¬ O b ∧ l.length ≤ cap ∧ cap ≤ maxLen ∧ v = .slice (some ⟨b, off, none⟩) l.length cap ∧ ∀ i, i < l.length → w.cell? ⟨b, off + i, none⟩ = some (.int .u8 ((l.getD i 0).toNat : Int)))
theorem RBo.fr {w w' : World} {O : Nat → Prop} {v : Value} {l : List UInt8} (h : RBo w O v l) (hf : FrO O w w') : RBo w' O v l := by
  obtain ⟨h1, h2 | ⟨b, off, cap, hb, hn, h3, h4, rfl, hc⟩⟩ := h
  · exact ⟨h1, .inl h2⟩
  · exact ⟨h1, .inr ⟨b, off, cap, Nat.lt_of_lt_of_le hb hf.size, hn, h3, h4, rfl, fun i hi => (cell_same (hf.blk b hb hn) _).trans (hc i hi)⟩⟩
theorem RBo.slice {w : World} {O : Nat → Prop} {v : Value} {l : List UInt8} (h : RBo w O v l) : ∃ a k, v = .slice a l.length k := by
  obtain ⟨h1, ⟨rfl, rfl⟩ | ⟨b, off, cap, hb, hn, h3, h4, rfl, hc⟩⟩ := h
  · exact ⟨none, 0, rfl⟩
  · exact ⟨_, _, rfl⟩

/-- 'append(own, bytes...)', and where the row lies then. -/
theorem wpList_append_at {w : World} {ops : Array Oper} {rest : List Oper} {o : Oper} {a : Act} {Q : Exit → Act → World → Prop} (hgd : o.guard = none) (s x : Operand)
    (ho : o.op = .call { callee := .builtin .append, args := #[s, x], argTypes := #[22, 22] })
    (v : Value) (n : Nat) (xs : List Value) (hs : a.eval s = v) (hown : w.ownsRow 0 5 1 v n xs)
    (O : Nat → Prop) (xv : Value) (lx : List UInt8) (hx : a.eval x = xv) (hrb : RBo w O xv lx) (hn : n ≤ 1000000000)
    (h : ∀ v' w', w'.ownsRow 0 5 1 v' (n + lx.length) (xs ++ byteCells lx) → w.grownBy w' v.ownBlock → (v'.ownBlock = v.ownBlock ∨ v'.ownBlock = some w.heap.size) → wpList Tryz.prog ops Q rest (a.put o.dst v') w') : wpList Tryz.prog ops Q (o :: rest) a w := by
  obtain ⟨i0, hi, hz0, hz1, hz2⟩ := info_parts Tryz.infoB
  obtain ⟨hlen, ⟨rfl, rfl⟩ | ⟨b, off, cap, hbB, _, hcap, hm, rfl, hcell⟩⟩ := hrb
  · refine wpList_append_own_none hgd s x 22 ho 0 5 i0 1 Tryz.underlying22 hi v n xs hs hown hx ?_
    exact h v w (by simpa [byteCells] using hown) (World.grownBy.refl _ _) (.inl rfl)
  · refine wpList_append_own_at w hgd s x 22 ho 0 5 i0 (.int .u8 0) 1 1 Tryz.underlying22 hi hz0 hz1 hz2 rfl (by decide) v n xs hs hown ⟨b, off, none⟩ lx.length cap (byteCells lx) hx (by rw [Lib.byteCells_length]; omega) ?_ ?_ (by unfold maxLen; omega) (by omega) (Nat.zero_le _) ?_
    · intro j u hj
      have hjl : j < lx.length := by
        have := (List.getElem?_eq_some_iff.1 hj).1
        rwa [Lib.byteCells_length] at this
      have e2 : (byteCells lx)[j]? = some (.int .u8 ((lx.getD j 0).toNat : Int)) := by
        simp [byteCells, hjl]
      have hj2 := Option.some.inj (e2.symm.trans hj)
      rw [← hj2]
      have e3 : (⟨b, off, none⟩ : Addr).add j = ⟨b, off + j, none⟩ := by unfold Addr.add; split <;> simp_all
      rw [e3]; exact hcell j hjl
    · intro u hu
      simp only [byteCells, List.mem_map] at hu
      obtain ⟨c, _, rfl⟩ := hu
      rfl
    · exact fun v' w' h1 h2 _ h4 => h v' w' h1 h2 h4

/-- The entry of that name is e'. -/
def repl (e' : Ent) (L : List Ent) : List Ent := L.map fun x => if x.name == e'.name then e' else x
theorem mem_repl {e' x : Ent} {L : List Ent} (h : x ∈ repl e' L) : x = e' ∨ (x ∈ L ∧ x.name ≠ e'.name) := by
  unfold repl at h
  obtain ⟨y, hy, rfl⟩ := List.mem_map.1 h
  by_cases hn : y.name = e'.name
  · left; simp [hn]
  · right; simp [hn, hy]
theorem names_repl (e' : Ent) (L : List Ent) : (repl e' L).map (·.name) = L.map (·.name) := by
  unfold repl
  rw [List.map_map]
  refine List.map_congr_left fun x _ => ?_
  by_cases hn : x.name = e'.name <;> simp [hn]
theorem rising_iff (L : List Ent) : Rising L ↔ (L.map (·.name)).Pairwise fun a b => bytesBefore a b = true := by
  unfold Rising; rw [List.pairwise_map]
theorem mem_repl_self {e e' : Ent} {L : List Ent} (he : e ∈ L) (hn : e.name = e'.name) : e' ∈ repl e' L := by
  unfold repl
  exact List.mem_map.2 ⟨e, he, by simp [hn]⟩
theorem delE_repl (e' : Ent) (L : List Ent) : delE e'.name (repl e' L) = delE e'.name L := by
  unfold delE repl
  induction L with
  | nil => rfl
  | cons y r ih =>
    by_cases hn : y.name = e'.name
    · simpa [hn] using ih
    · simpa [hn] using ih
theorem putE_repl {e e' : Ent} {L : List Ent} (hr : Rising L) (he : e ∈ L) (hn : e.name = e'.name) : putE e' L = repl e' L := by
  have h1 : Rising (repl e' L) := by rw [rising_iff, names_repl, ← rising_iff]; exact hr
  have h2 := putE_same h1 (mem_repl_self he hn)
  unfold putE at h2 ⊢
  rw [delE_repl] at h2
  exact h2
theorem toD_repl {e e' : Ent} {L : List Ent} (hr : Rising L) (he : e ∈ L) (hn : e.name = e'.name) (hp : e.fp = e'.fp) : toD (repl e' L) = toD L := by
  unfold toD repl
  rw [List.map_map]
  refine List.map_congr_left fun x hx => ?_
  by_cases hx' : x.name = e'.name
  · have : x = e := by
      have a1 := look_of_mem hr hx
      have a2 := look_of_mem hr he
      rw [hx', ← hn] at a1
      rw [a1] at a2
      exact Option.some.inj a2
    subst this
    simp [hn, hp]
  · simp [hx']
theorem length_repl (e' : Ent) (L : List Ent) : (repl e' L).length = L.length := by simp [repl]

theorem Apart.symm {a b : Ent} (h : Apart a b) : Apart b a := ⟨fun e => h.1 e.symm, fun k hk hk' => h.2 k hk' hk⟩
theorem apart_of {L : List Ent} (h : L.Pairwise Apart) {a b : Ent} (ha : a ∈ L) (hb : b ∈ L) (hne : a.name ≠ b.name) : Apart a b := by
  induction L with
  | nil => cases ha
  | cons y r ih =>
    obtain ⟨h1, h2⟩ := List.pairwise_cons.1 h
    rcases List.mem_cons.1 ha with rfl | ha'
    · rcases List.mem_cons.1 hb with rfl | hb'
      · exact absurd rfl hne
      · exact h1 b hb'
    · rcases List.mem_cons.1 hb with rfl | hb'
      · exact (h1 a ha').symm
      · exact ih h2 ha' hb'

/-- One file changed: its block, its row, and new blocks alone turned. -/
theorem dk_repl {w w' : World} {p : Nat} {S : St} {mb : Option Nat} {L : List Ent} {O O' : Nat → Prop} (h : DK w p S mb L O) (e e' : Ent) (he : e ∈ L) (hn : e.name = e'.name) (hp : e.fp = e'.fp)
    (hf : FileAt w' e') (hO : ∀ k, O k → O' k) (hO' : ∀ k, e'.v.ownBlock = some k → O' k) (hlt : ∀ k, O k → k < w.heap.size) (hrow : e'.v.ownBlock = e.v.ownBlock ∨ ∃ k, e'.v.ownBlock = some k ∧ w.heap.size ≤ k)
    (hs : ∀ k, k < w.heap.size → k ≠ e.fp → e.v.ownBlock ≠ some k → w'.heap[k]? = w.heap[k]?) : DK w' p S mb (repl e' L) O' := by
  have hris := h.rising
  have hef := h.files e he
  have hTD : ∀ {k : Nat} {o : Obj}, w.heap[k]? = some o → (∀ c, o ≠ .cells c 104 (0, 0)) → (∀ c, o ≠ .cells c 5 (0, 0)) → w'.heap[k]? = w.heap[k]? := fun {k o} hk h1 h2 => by
    refine hs k (Array.getElem?_eq_some_iff.1 hk).1 ?_ ?_
    · rintro rfl; rw [hef.blk] at hk; injection hk with hk; exact h1 _ hk.symm
    · intro hx
      rcases hef.row.2 with ⟨e1, _⟩ | ⟨g, cap, cur, e1, _, hc, _⟩
      · rw [e1] at hx; simp [Value.ownBlock] at hx
      · rw [e1] at hx; simp [Value.ownBlock] at hx; subst hx; rw [hc] at hk; injection hk with hk; exact h2 _ hk.symm
  have hother : ∀ x ∈ L, x.name ≠ e'.name → FileAt w' x := fun x hx hxn => by
    have hap := apart_of h.apart hx he (by rw [hn]; exact hxn)
    have hxf := h.files x hx
    have hb : w'.heap[x.fp]? = w.heap[x.fp]? := by
      refine hs _ hxf.lt hap.1 ?_
      intro hx2
      rcases hef.row.2 with ⟨e1, _⟩ | ⟨g, cap, cur, e1, _, hc, _⟩
      · rw [e1] at hx2; simp [Value.ownBlock] at hx2
      · rw [e1] at hx2; simp [Value.ownBlock] at hx2; subst hx2; rw [hxf.blk] at hc; injection hc with hc; injection hc with _ h2; exact absurd h2 (by decide)
    refine ⟨hb.trans hxf.blk, ownsRow_of_same hxf.row (fun k hk => ?_), hxf.sure, hxf.len⟩
    refine hs k (hlt k (h.oR x hx k hk)) ?_ (fun hk' => hap.2 k hk hk')
    rintro rfl
    rcases hxf.row.2 with ⟨e1, _⟩ | ⟨g, cap, cur, e1, _, hc, _⟩
    · rw [e1] at hk; simp [Value.ownBlock] at hk
    · rw [e1] at hk; simp [Value.ownBlock] at hk; subst hk; rw [hef.blk] at hc; injection hc with hc; injection hc with _ h2; exact absurd h2 (by decide)
  refine ⟨(hTD h.disk (by simp) (by simp)).trans h.disk, fun hh => ?_, fun b hb => ?_, fun x hx => ?_, ?_, by rw [length_repl]; exact h.few, hO _ h.oP, fun b hb => hO _ (h.oM b hb), fun x hx => ?_, fun x hx => ?_⟩
  · rw [h.none hh] at he; cases he
  · have hm := h.some b hb
    unfold DL
    rw [toD_repl hris he hn hp, length_repl]
    refine ownsMap_of_same hm ?_
    obtain ⟨es, clock, hb', _⟩ := hm
    exact hTD hb' (by simp) (by simp)
  · rcases mem_repl hx with rfl | ⟨hx, hxn⟩
    · exact hf
    · exact hother x hx hxn
  · unfold repl
    rw [List.pairwise_map]
    have hd := hris.distinct
    have hmem : ∀ {l : List Ent}, (∀ x ∈ l, x ∈ L) → l.Pairwise (fun a b => a.name ≠ b.name) → l.Pairwise fun a b => Apart (if a.name == e'.name then e' else a) (if b.name == e'.name then e' else b) := by
      have hE : ∀ x ∈ L, x.name ≠ e'.name → Apart e' x := fun x hx hxn => by
        have hap := apart_of h.apart he hx (by rw [hn]; exact fun hh => hxn hh.symm)
        refine ⟨fun hh => hap.1 (hp.trans hh), fun k hk hk' => ?_⟩
        rcases hrow with hr | ⟨k', hk1, hk2⟩
        · exact hap.2 k (hr ▸ hk) hk'
        · rw [hk1] at hk; cases hk
          exact absurd (hlt _ (h.oR x hx _ hk')) (by omega)
      intro l hl hp
      induction l with
      | nil => exact List.Pairwise.nil
      | cons y r ih =>
        obtain ⟨h1, h2⟩ := List.pairwise_cons.1 hp
        refine List.pairwise_cons.2 ⟨fun x hx => ?_, ih (fun x hx => hl x (by simp [hx])) h2⟩
        have hne := h1 x hx
        by_cases hy : y.name = e'.name
        · have hxn : x.name ≠ e'.name := fun hh => hne (hy.trans hh.symm)
          simp only [hy, beq_self_eq_true, if_true]
          rw [if_neg (by simpa using hxn)]
          exact hE x (hl x (by simp [hx])) hxn
        · by_cases hx' : x.name = e'.name
          · simp only [hx', beq_self_eq_true, if_true]
            rw [if_neg (by simpa using hy)]
            exact (hE y (hl y (by simp)) hy).symm
          · rw [if_neg (by simpa using hy), if_neg (by simpa using hx')]
            exact apart_of h.apart (hl y (by simp)) (hl x (by simp [hx])) hne
    exact hmem (fun x hx => hx) hd
  · rcases mem_repl hx with rfl | ⟨hx, _⟩
    · rw [← hp]; exact hO _ (h.oF e he)
    · exact hO _ (h.oF x hx)
  · rcases mem_repl hx with rfl | ⟨hx, _⟩
    · exact hO'
    · exact fun k hk => hO _ (h.oR x hx k hk)
end Go.Proofs.YthphadbcebeoaaaGreatDoor.Dk
