/- Contract of value.Unkey. -/
import Derived.Test.YtobonbjeejbhoaaDoorKVal
import Derived.Test.YtobonbjeejbhoaaDoorKKey
import Derived.Deep.CutBlock
namespace Go.Proofs.YtobonbjeejbhoaaDoor
open Go.RowKit Go.Lib

theorem Tryd.infoV : (Tryd.prog.info? 42).map (fun i => (i.zero, i.size, i.bytes)) = some (some (.agg #[.int .i64 0, .int .i64 0, .string ⟨#[]⟩]), 3, 32) := by kernel_rfl
def gvCells (g : GV) : List Value := [.int .i64 g.kind, .int .i64 g.int, .string g.text]
def gvsCells (gs : List GV) : List Value := gs.flatMap gvCells
theorem gvsCells_length (gs : List GV) : (gvsCells gs).length = gs.length * 3 := by
  induction gs with
  | nil => rfl
  | cons g r ih => simp [gvsCells, gvCells] at ih ⊢; omega
theorem gvsCells_snoc (gs : List GV) (g : GV) : gvsCells (gs ++ [g]) = gvsCells gs ++ gvCells g := by simp [gvsCells]
theorem three_new' (w : World) (g : GV) (e : TypeId) {b : Nat} (hb : b = w.heap.size) : ∀ j v, (gvCells g)[j]? = some v → (w.alloc (.cells #[.int .i64 g.kind, .int .i64 g.int, .string g.text] e)).cell? ((⟨b, 0, none⟩ : Addr).add j) = some v := by
  subst hb
  intro j v hj
  match j, hj with
  | 0, hj => simp [gvCells] at hj; subst hj; simp [Addr.add]
  | 1, hj => simp [gvCells] at hj; subst hj; simp [Addr.add]
  | 2, hj => simp [gvCells] at hj; subst hj; simp [Addr.add]
theorem three_cell (g : GV) : ∀ u ∈ gvCells g, u.oneCell' = true := by
  intro u hu
  simp [gvCells] at hu
  rcases hu with rfl | rfl | rfl <;> rfl

/-- The row of which these bytes are the key, or none (P6.4): behind those that are read. -/
def unG : Nat → List GV → List UInt8 → Option (List GV)
  | 0, done, l => if l = [] then some done else none
  | f + 1, done, l => if l = [] then some done else if l.length < szG l ∨ done.length = 16 then none
    else if (valG (l.take (szG l))).may then unG f (done ++ [valG (l.take (szG l))]) (l.drop (szG l)) else none
theorem unG_nil (f : Nat) (done : List GV) : unG f done [] = some done := by cases f <;> simp [unG]
theorem szG_pos (l : List UInt8) : 1 ≤ szG l := by
  unfold szG
  repeat' split
  all_goals omega
theorem unG_more : ∀ (f f' : Nat) (done : List GV) (l : List UInt8), l.length ≤ f → l.length ≤ f' → unG f done l = unG f' done l
  | 0, f', done, l, h, _ => by
    have : l = [] := List.eq_nil_of_length_eq_zero (by omega)
    subst this; rw [unG_nil, unG_nil]
  | f + 1, 0, done, l, _, h => by
    have : l = [] := List.eq_nil_of_length_eq_zero (by omega)
    subst this; rw [unG_nil, unG_nil]
  | f + 1, f' + 1, done, l, h, h' => by
    by_cases e : l = []
    · subst e; rw [unG_nil, unG_nil]
    · have hp : 0 < l.length := List.length_pos_iff.2 e
      have hz := szG_pos l
      have ih := unG_more f f' (done ++ [valG (l.take (szG l))]) (l.drop (szG l)) (by simp; omega) (by simp; omega)
      simp only [unG, ih]
theorem un_step {l : List UInt8} {done : List GV} (hl : l ≠ []) (h1 : szG l ≤ l.length) (h2 : done.length ≠ 16) (hm : (valG (l.take (szG l))).may = true) :
    unG l.length done l = unG (l.drop (szG l)).length (done ++ [valG (l.take (szG l))]) (l.drop (szG l)) := by
  have hp : 0 < l.length := List.length_pos_iff.2 hl
  have hz := szG_pos l
  obtain ⟨f, hf⟩ : ∃ f, l.length = f + 1 := ⟨l.length - 1, by omega⟩
  rw [hf]
  show (if l = [] then _ else if l.length < szG l ∨ done.length = 16 then none else if (valG (l.take (szG l))).may then unG f (done ++ [valG (l.take (szG l))]) (l.drop (szG l)) else none) = _
  rw [if_neg hl, if_neg (by omega), if_pos hm]
  exact unG_more _ _ _ _ (by simp; omega) (Nat.le_refl _)
theorem un_none {l : List UInt8} {done : List GV} (hl : l ≠ []) (h : l.length < szG l ∨ done.length = 16 ∨ (valG (l.take (szG l))).may = false) : unG l.length done l = none := by
  have hp : 0 < l.length := List.length_pos_iff.2 hl
  obtain ⟨f, hf⟩ : ∃ f, l.length = f + 1 := ⟨l.length - 1, by omega⟩
  rw [hf]
  show (if l = [] then _ else if l.length < szG l ∨ done.length = 16 then none else if (valG (l.take (szG l))).may then unG f (done ++ [valG (l.take (szG l))]) (l.drop (szG l)) else none) = _
  rw [if_neg hl]
  by_cases e : l.length < szG l ∨ done.length = 16
  · rw [if_pos e]
  · rw [if_neg e]
    have : (valG (l.take (szG l))).may = false := by
      rcases h with h | h | h
      · exact absurd (.inl h) e
      · exact absurd (.inr h) e
      · exact h
    rw [this]; rfl
theorem take_head {l : List UInt8} {n : Nat} (hn : 1 ≤ n) : (l.take n).getD 0 0 = l.getD 0 0 := by
  simp [List.getD_eq_getElem?_getD, show 0 < n by omega]
theorem idx_pos {l : List UInt8} (h3 : (l.getD 0 0).toNat = 3) : indexByte l 0 ≠ 0 := by
  cases l with
  | nil => simp [indexByte]
  | cons c r =>
    have hc : c.toNat = 3 := by simpa using h3
    have hne : (c == 0) = false := by
      rw [beq_eq_false_iff_ne]
      intro e; subst e; simp at hc
    have := idx_ge r 0
    unfold indexByte
    rw [hne]
    simp only [Bool.false_eq_true, if_false]
    split
    · decide
    · rename_i h1
      have : indexByte r 0 ≠ -1 := by simpa using h1
      omega
theorem fit_take {l : List UInt8} (hz : szG l ≤ l.length) : fitL (l.take (szG l)) := by
  have h1 := szG_pos l
  have hlen : (l.take (szG l)).length = szG l := by simp; omega
  unfold fitL
  rw [take_head h1, hlen]
  refine ⟨fun e => by rw [e] at hlen; simp at hlen; omega, fun h => ?_, fun h => ?_, fun h => ?_, fun a b c => ?_⟩
  · unfold szG; rw [if_pos h]
  · unfold szG; rw [if_neg (by omega), if_pos h]
  · unfold szG at hz ⊢
    rw [if_neg (by omega), if_neg (by omega), if_pos h] at hz ⊢
    have := idx_pos h
    split <;> rename_i hx
    · rw [if_pos hx] at hz; omega
    · omega
  · unfold szG; rw [if_neg a, if_neg b, if_neg c]
/-- What Unkey tells. -/
def UnPost (U : Option (List GV)) (w : World) (e : Ending) (w' : World) : Prop :=
  Below w.heap.size w w' ∧ match U with
    | some gs => ∃ a k, e = .returned (.tuple #[.slice a gs.length k, .nilIface]) ∧ w'.ownsRow w.heap.size 42 3 (.slice a gs.length k) gs.length (gvsCells gs)
    | none => e = .returned (.tuple #[.slice none 0 0, .iface 48 (.int .i64 20)])
theorem un_no {U : Option (List GV)} {w w' : World} (h : U = none) (hb : Below w.heap.size w w') : UnPost U w (.returned (.tuple #[.slice none 0 0, .iface 48 (.int .i64 20)])) w' := by
  subst h; exact ⟨hb, rfl⟩
theorem ok_of {k n : Int} {t : ByteArray} (h1 : -9223372036854775808 ≤ n) (h2 : n < 9223372036854775808) (h3 : t.size ≤ maxLen) : GV.ok ⟨k, n, t⟩ := ⟨h1, h2, h3⟩
theorem val_ok {l : List UInt8} (hlen : l.length ≤ 1000) (hf : fitL l) : (valG l).ok := by
  have hd := decN_lt (l.drop 1)
  unfold valG
  have h1 := UInt8.toNat_lt (l.getD 1 0)
  split
  · exact ok_of (by omega) (by omega) (by decide)
  · split
    · rename_i h2
      have e := hf.2.2.1 h2
      have : (l.drop 1).length = 8 := by simp [e]
      rw [this] at hd
      have hd' : decN (l.drop 1) < 18446744073709551616 := hd
      exact ok_of (by omega) (by omega) (by decide)
    · split
      · exact ok_of (by decide) (by decide) (by show (List.toArray _).size ≤ maxLen; simp [maxLen]; omega)
      · exact ok_of (by decide) (by decide) (by decide)
theorem rb_rest {w : World} {B b off cap z : Nat} {l : List UInt8} (hbB : b < B) (hz : z ≤ l.length) (hcap : l.length ≤ cap) (hm : cap ≤ maxLen) (hlen : l.length ≤ 1000000000000)
    (hcell : ∀ i, i < l.length → w.cell? ⟨b, off + i, none⟩ = some (.int .u8 ((l.getD i 0).toNat : Int))) : RBp w B (.slice (some ⟨b, if cap = z then off else off + z, none⟩) (l.length - z) (cap - z)) (l.drop z) := by
  by_cases e : cap = z
  · rw [if_pos e]
    have := rb_end (w := w) (B := B) (l := l) (at' := z) hbB hz hcap e off (b := b)
    have e2 : cap - z = 0 := by omega
    rw [e2]; exact this
  · rw [if_neg e]
    exact rb_drop hbB hz hcap hm hlen hcell

set_option maxHeartbeats 6400000 in
set_option maxRecDepth 100000 in
theorem unkey_any (v : Value) (l : List UInt8) (w : World) (h : RBp w w.heap.size v l) (hl : l.length ≤ 1000) : Calls Tryd.prog 9 #[v] w fun e w' => UnPost (unG l.length [] l) w e w' := by
  obtain ⟨i0, hi, hz0, hz1, hz2⟩ := info_parts Tryd.infoV
  obtain ⟨U, hU⟩ : ∃ U, U = unG l.length [] l := ⟨_, rfl⟩
  rw [← hU]
  have HU := hide hU
  have HV := hide h
  clear h hU
  go_enter Tryd.func9, Tryd.ntmps9
  go_wp2
  go_loopg [0, 4] l.length (fun g bv lv wr => ∃ (r : List UInt8) (done : List GV), g = r.length ∧ r.length ≤ 1000 ∧ done.length ≤ 16 ∧ Hid (U = unG r.length done r ∧ RBp wr w.heap.size bv r ∧ wr.ownsRow w.heap.size 42 3 lv done.length (gvsCells done) ∧ Below w.heap.size w wr))
  case atStart => exact ⟨l, [], rfl, hl, by simp, unhide HU, unhide HV, World.ownsRow_nil _ _ _ _, Below.refl _ _⟩
  case round =>
    obtain ⟨r, done, rfl, hr, hd, HR⟩ := hrel
    obtain ⟨hU, hrb, hown, hbw⟩ := unhide HR
    obtain ⟨la, lk, rfl⟩ := own_is hown
    by_cases hne : r = []
    · subst hne
      rw [unG_nil] at hU
      obtain ⟨ba, bk, rfl, _⟩ := rb_len' hrb
      have HX := hide hU
      have HO := hide hown
      have HB := hide hbw
      clear hU hown hbw hrb HR HU HV
      go_wp2
      go_ret2
      refine ⟨unhide HB, ?_⟩
      rw [unhide HX]
      exact ⟨la, lk, rfl, unhide HO⟩
    · have hp : 0 < r.length := List.length_pos_iff.2 hne
      have hzp := szG_pos r
      have HS := hide (sizeOf_any _ _ r wr hrb hne)
      obtain ⟨b, off, cap, hbB, hcap, hm, rfl, hc⟩ := rb_some hrb hne
      have hrI : (r.length : Int) ≤ 1000 := by omega
      have hpI : (0 : Int) < (r.length : Int) := by omega
      have hmI : (cap : Int) ≤ 9223372036854775807 := by unfold maxLen at hm; omega
      have hcI : (r.length : Int) ≤ (cap : Int) := by omega
      have hdI : (done.length : Int) ≤ 16 := by omega
      by_cases hz : r.length < szG r
      · have HX := hide (hU.trans (un_none hne (.inl hz)))
        have HB := hide hbw
        have hzI : (r.length : Int) < (szG r : Int) := by omega
        generalize szG r = z at *
        clear hU hown hbw hrb HR HU HV hc hz
        go_wp2_with (first | (go_at_call 22; refine (unhide HS).mono ?_; clear HS; rintro e w1 ⟨rfl, rfl⟩))
        go_ret2
        exact un_no (unhide HX) (unhide HB)
      · by_cases h16 : done.length = 16
        · have HX := hide (hU.trans (un_none hne (.inr (.inl h16))))
          have HB := hide hbw
          have hzI : ((r.length : Int) < (szG r : Int)) = False := by simp; omega
          generalize szG r = z at *
          rw [h16] at *
          clear hU hown hbw hrb HR HU HV hc hz
          go_wp2_with (first | (go_at_call 22; refine (unhide HS).mono ?_; clear HS; rintro e w1 ⟨rfl, rfl⟩))
          go_ret2
          exact un_no (unhide HX) (unhide HB)
        · have hzI : ((r.length : Int) < (szG r : Int)) = False := by simp; omega
          have hzc : (szG r : Int) ≤ (cap : Int) := by omega
          have hzr : (szG r : Int) ≤ (r.length : Int) := by omega
          have h16b : ((done.length : Int) == 16) = false := beq_eq_false_iff_ne.2 (fun e => h16 (by omega))
          have hft := fit_take (l := r) (by omega)
          have HVO := hide (valueOf_any (.slice (some ⟨b, off, none⟩) (szG r) cap) w.heap.size (r.take (szG r)) wr hbw.size (rb_first hrb (by omega)) hft)
          have hgo := val_ok (l := r.take (szG r)) (by simp; omega) hft
          have HI := hide (fun W => is_any (valG (r.take (szG r))) W hgo)
          have HST := hide (fun hm => hU.trans (un_step hne (by omega) h16 hm))
          have HNO := hide (fun hm => hU.trans (un_none hne (.inr (.inr hm))))
          have HRR : Hid (∀ W, Below w.heap.size wr W → RBp W w.heap.size (.slice (some ⟨b, if cap = szG r then off else off + szG r, none⟩) (r.length - szG r) (cap - szG r)) (r.drop (szG r))) := fun W hW => (rb_rest hbB (by omega) hcap hm (by omega) hc).below hW (Nat.le_refl _)
          have HB := hide hbw
          have HO := hide hown
          have HDL : Hid ((r.drop (szG r)).length < r.length ∧ (r.drop (szG r)).length ≤ 1000) := ⟨by simp; omega, by simp; omega⟩
          have hsz := hbw.size
          generalize valG (r.take (szG r)) = g at *
          generalize r.drop (szG r) = r' at *
          generalize szG r = z at *
          clear hU hown hbw hrb HR HU HV hc hz hft hgo hne
          cases hgm : g.may with
          | false =>
            rw [hgm] at HI
            have HX := hide (unhide HNO hgm)
            clear HST HRR HO HDL hgm HNO
            obtain ⟨k, n, t⟩ := g
            rw [GV.agg_eq] at HI HVO
            go_wp2_with (first
              | (go_at_call 22; refine (unhide HS).mono ?_; clear HS; rintro e w1 ⟨rfl, rfl⟩)
              | (go_at_call 23; refine (unhide HVO).mono ?_; clear HVO; rintro e w1 ⟨rfl, hb1⟩)
              | (go_at_call 19; refine (unhide HI _).mono ?_; clear HI; rintro e w2 ⟨rfl, hb2⟩))
            go_ret2
            exact un_no (unhide HX) (one_step (one_new' (one_step (unhide HB) hb1) _) hb2)
          | true =>
            rw [hgm] at HI
            have HX := hide (unhide HST hgm)
            clear HNO hgm HST
            have HG3 := hide (three_cell g)
            have HGN := hide (fun (W : World) (b : Nat) (hb : b = W.heap.size) => three_new' W g 42 hb)
            have HSN := hide (gvsCells_snoc done g)
            obtain ⟨k, n, t⟩ := g
            rw [GV.agg_eq] at HI HVO
            dsimp only at HGN
            go_wp2_with (first
              | (go_at_call 22; refine (unhide HS).mono ?_; clear HS; rintro e w1 ⟨rfl, rfl⟩)
              | (go_at_call 23; refine (unhide HVO).mono ?_; clear HVO; rintro e w1 ⟨rfl, hb1⟩)
              | (go_at_call 19; refine (unhide HI _).mono ?_; clear HI; rintro e w2 ⟨rfl, hb2⟩; obtain ⟨c0, c1, c2, _, _, _⟩ := (B3.new w1 w1.heap.size k n t rfl).after hb2; have Q2 := hide (one_step (one_new' (one_step (unhide HB) hb1) _) hb2); have Q2' := hide (one_step (one_new' hb1 _) hb2); have z2 := (unhide Q2).size; have ho2 := (own_later ((own_later (unhide HO) hb1).alloc _) hb2).alloc (.cells #[.int .i64 k, .int .i64 n, .string t] 42))
              | (at_builtin; refine wpList_append_own _ rfl (.tmp 30) (.tmp 32) 22 rfl w.heap.size 42 i0 _ 3 32 Tryd.underlying22 hi hz0 hz1 hz2 rfl (by decide) _ _ _ rfl ho2 ⟨w2.heap.size, 0, none⟩ 1 1 (gvCells ⟨k, n, t⟩) rfl rfl (unhide HGN w2 _ rfl) (unhide HG3) (by unfold maxLen; omega) (by omega) (by simp; omega) ?_))
            intro v3 w3 ho3 hg3 _
            have hb3 : Below w.heap.size w2 w3 := ((Below.refl w.heap.size w2).alloc z2 _).grown hg3 (by simp; omega) (own_block_ge ho2)
            have Q3 := hide ((unhide Q2).trans hb3)
            have R3 : Hid (∀ o c, o = (if cap = z then off else off + z) → c = cap - z → RBp w3 w.heap.size (.slice (some ⟨b, o, none⟩) (r.length - z) c) r') := fun o c ho hc => by rw [ho, hc]; exact unhide HRR w3 (((unhide Q2').mono hsz).trans hb3)
            clear hg3 ho2 hb3 hb1 hb2 c0 c1 c2 HRR HO HB Q2 Q2'
            go_wp2
            · rename_i hcz
              go_roundg r'.length
              case rel => exact ⟨r', done ++ [⟨k, n, t⟩], rfl, (unhide HDL).2, by simp; omega, unhide HX, unhide R3 _ _ (by rw [if_pos (by omega)]) (by omega), by rw [unhide HSN, List.length_append]; exact ho3, unhide Q3⟩
              case measure => exact (unhide HDL).1
            · rename_i hcz
              go_roundg r'.length
              case rel => exact ⟨r', done ++ [⟨k, n, t⟩], rfl, (unhide HDL).2, by simp; omega, unhide HX, unhide R3 _ _ (by rw [if_neg (by omega)]) (by omega), by rw [unhide HSN, List.length_append]; exact ho3, unhide Q3⟩
              case measure => exact (unhide HDL).1
end Go.Proofs.YtobonbjeejbhoaaDoor
