/- Truncate, Remove, Rename in terms of names, bytes, how many are sure. -/
import Derived.Test.YthphadbcebeoaaaGreatDoorJDReadDAbs
import Derived.Test.YthphadbcebeoaaaGreatDoorJDRemDRen
import Derived.Test.YthphadbcebeoaaaGreatDoorJHandWaStLawFramesSPack
import Derived.Laws.ResultCell
namespace Go.Proofs.YthphadbcebeoaaaGreatDoor.Dk
open Go.RowKit Go.Lib Go.Maps Go.WideMaps

theorem truncC_er (L : List Ent) (n : List UInt8) (m : Int) : truncC (L.map er) n m = truncC L n m := by
  unfold truncC
  rw [look_er]
  cases look L n <;> rfl
theorem renC_er (L : List Ent) (a b : List UInt8) : renC (L.map er) a b = renC L a b := by unfold renC; rw [thereC_er]

theorem dx_trunc {w : World} {p : Nat} {S : St} {F : List Ent} {O : Nat → Prop} (s : ByteArray) (n : Int) (h : DX w p S F O) (hE : ET w) (hs : s.size ≤ maxLen) (hn : -9223372036854775808 ≤ n ∧ n ≤ 9223372036854775807) (hc : 0 ≤ S.count ∧ S.count < 1000000000) (hl : S.halting = true → 0 ≤ S.left ∧ S.left < 9223372036854775808) :
    Calls Tryz.prog 56 #[.pointer (some ⟨p, 0, none⟩), .string s, .int .i64 n] w fun e w' => ∃ v', e = .returned v' ∧ ErrOut (Old w) w' v' (beginS S (truncC F s.data.toList n)).2 ∧
      DX w' p (beginS S (truncC F s.data.toList n)).1 (if (beginS S (truncC F s.data.toList n)).2 = 0 then repl (fl s.data.toList ((oldData F s.data.toList).take n.toNat) (min (oldSure F s.data.toList) n.toNat)) F else F) O ∧ FrO O w w' := by
  obtain ⟨mb, L, hd, hO, rfl⟩ := h
  rw [truncC_er, oldData_er, oldSure_er]
  refine (trunc_any s n hd hO hE hs hn hc hl).mono ?_
  rintro e w' ⟨v', L', rfl, he, hd', hf, h1, h2⟩
  refine ⟨v', rfl, he, ⟨mb, L', hd', fun k hk => Nat.lt_of_lt_of_le (hO k hk) hf.size, ?_⟩, hf⟩
  by_cases h0 : (beginS S (truncC L s.data.toList n)).2 = 0
  · rw [if_pos h0]
    obtain ⟨e', hlk, rfl⟩ := h2 h0
    rw [repl_er]
    unfold oldData oldSure
    rw [hlk]
    have := (look_mem hlk).2
    unfold er cutE
    rw [← this]
  · rw [if_neg h0, h1 h0]
theorem dx_remove {w : World} {p : Nat} {S : St} {F : List Ent} {O : Nat → Prop} (s : ByteArray) (h : DX w p S F O) (hE : ET w) (hs : s.size ≤ maxLen) (hc : 0 ≤ S.count ∧ S.count < 1000000000) (hl : S.halting = true → 0 ≤ S.left ∧ S.left < 9223372036854775808) :
    Calls Tryz.prog 54 #[.pointer (some ⟨p, 0, none⟩), .string s] w fun e w' => ∃ v', e = .returned v' ∧ ErrOut (Old w) w' v' (beginS S (thereC F s.data.toList)).2 ∧
      DX w' p (beginS S (thereC F s.data.toList)).1 (if (beginS S (thereC F s.data.toList)).2 = 0 then delE s.data.toList F else F) O ∧ FrO O w w' := by
  obtain ⟨mb, L, hd, hO, rfl⟩ := h
  rw [thereC_er]
  refine (remove_any s hd hO hE hs hc hl).mono ?_
  rintro e w' ⟨v', L', rfl, he, hd', hf, h1, h2⟩
  refine ⟨v', rfl, he, ⟨mb, L', hd', fun k hk => Nat.lt_of_lt_of_le (hO k hk) hf.size, ?_⟩, hf⟩
  by_cases h0 : (beginS S (thereC L s.data.toList)).2 = 0
  · rw [if_pos h0, h2 h0, delE_er]
  · rw [if_neg h0, h1 h0]
theorem dx_rename {w : World} {p : Nat} {S : St} {F : List Ent} {O : Nat → Prop} (s t : ByteArray) (h : DX w p S F O) (hE : ET w) (hs : s.size ≤ 1000) (ht : t.size ≤ 1000) (hc : 0 ≤ S.count ∧ S.count < 1000000000) (hl : S.halting = true → 0 ≤ S.left ∧ S.left < 9223372036854775808) :
    Calls Tryz.prog 102 #[.pointer (some ⟨p, 0, none⟩), .string s, .string t] w fun e w' => ∃ v' O', e = .returned v' ∧ ErrOut (Old w) w' v' (beginS S (renC F s.data.toList t.data.toList)).2 ∧
      DX w' p (beginS S (renC F s.data.toList t.data.toList)).1 (if (beginS S (renC F s.data.toList t.data.toList)).2 = 0 then putE (fl t.data.toList (oldData F s.data.toList) (oldSure F s.data.toList)) (delE s.data.toList F) else F) O' ∧ FrO O w w' ∧ (∀ k, O' k → O k ∨ w.heap.size ≤ k) := by
  obtain ⟨mb, L, hd, hO, rfl⟩ := h
  rw [renC_er, oldData_er, oldSure_er]
  refine (rename_any s t hd hO hE hs ht hc hl).mono ?_
  rintro e w' ⟨v', mb', L', rfl, he, hd', hf, h1, h2⟩
  refine ⟨v', _, rfl, he, ⟨mb', L', hd', fun k hk => ?_, ?_⟩, hf, fun k hk => hk.elim .inl (fun hh => .inr hh.1)⟩
  · have := hf.size
    rcases hk with hk | hk
    · have := hO k hk; omega
    · exact hk.2
  · by_cases h0 : (beginS S (renC L s.data.toList t.data.toList)).2 = 0
    · rw [if_pos h0]
      obtain ⟨e', hlk, rfl⟩ := h2 h0
      rw [putE_er, delE_er]
      unfold oldData oldSure
      rw [hlk]
      rfl
    · rw [if_neg h0, h1 h0]
end Go.Proofs.YthphadbcebeoaaaGreatDoor.Dk
/- What package snap reads of a snapshot's bytes: unpack. -/
namespace Go.Proofs.YthphadbcebeoaaaGreatDoor
open Go.RowKit Go.Lib

set_option maxHeartbeats 1600000 in
set_option maxRecDepth 100000 in
theorem clone_new (a : Addr) (n cap : Nat) (l : List UInt8) (w : World) (hl : l.length ≤ 1000000000) (hv : RBp w w.heap.size (.slice (some a) n cap) l) :
    Calls Tryz.prog 50 #[.slice (some a) n cap] w fun e w' => ∃ v', e = .returned v' ∧ w'.ownsRow w.heap.size 5 1 v' l.length (byteCells l) ∧ Below w.heap.size w w' := by
  have hb0 := below_alloc (B := w.heap.size) (.cells #[] 5) (Nat.le_refl w.heap.size)
  have HO := hide (own_empty w)
  have HV := hide (hv.below hb0 (Nat.le_refl _))
  have HB0 := hide hb0
  have hnil := run_eql_slice_some_nil (P := Tryz.prog) w a n cap Tryz.underlying22
  clear hv hb0
  go_enter Tryz.func50, Tryz.ntmps50
  go_wp2_with (first
    | (at_builtin; refine wpList_append_rb rfl (.tmp 5) (.tmp 6) rfl w.heap.size _ 0 [] rfl (unhide HO) _ _ l rfl (unhide HV) (by omega) hl (by simp) ?_; intro v3 w3 ho3 _ hb3; have HO3 := hide ho3; clear ho3))
  go_ret
  exact ⟨_, rfl, own_cast2 (unhide HO3) (by omega) rfl, (unhide HB0).trans hb3⟩

set_option maxHeartbeats 3200000 in
set_option maxRecDepth 100000 in
theorem unframe_fine2 (b off cap len n : Nat) (w : World) (hl4 : 4 ≤ len) (hl : len ≤ 1000000000000) (hn : n < 4294967296)
    (HW : Hid (Calls Tryz.prog 91 #[.slice (some ⟨b, off, none⟩) len cap] w fun e w' => e = .returned (.int .u32 (n : Int)) ∧ ∃ m, w' = w.drewN m)) (en e8 : Nat) (hen : en = 4 + n) (he8 : e8 = en + 4) (hg : n ≤ 262144)
    (hcap : len ≤ cap) (_hm : cap ≤ 9223372036854775807) (hc : e8 ≤ len) (c1 c2 : Nat) (HS : Hid (∀ W, Below w.heap.size w W → Calls Tryz.prog 92 #[.slice (some ⟨b, off, none⟩) en cap] W fun e w' => e = .returned (.int .u32 (c1 : Int)) ∧ w' = W))
    (HW2 : Hid (∀ W, Below w.heap.size w W → Calls Tryz.prog 91 #[.slice (some ⟨b, off + en, none⟩) (len - en) (cap - en)] W fun e w' => e = .returned (.int .u32 (c2 : Int)) ∧ ∃ m, w' = W.drewN m)) (hx : c1 = c2) (lm : List UInt8)
    (HC : Hid (∀ W, Below w.heap.size w W → Calls Tryz.prog 50 #[.slice (some ⟨b, off + 4, none⟩) (en - 4) (cap - 4)] W fun e w' => ∃ v', e = .returned v' ∧ w'.ownsRow W.heap.size 5 1 v' lm.length (byteCells lm) ∧ Below W.heap.size W w')) :
    Calls Tryz.prog 73 #[.slice (some ⟨b, off, none⟩) len cap] w fun e w' => ∃ p, e = .returned (.tuple #[p, .int .i64 (e8 : Int), .nilIface]) ∧ w'.ownsRow w.heap.size 5 1 p lm.length (byteCells lm) ∧ Below w.heap.size w w' := by
  have hl' : ¬ ((len : Int) < 4) := by omega
  have hg' : ¬ ((262144 : Int) < (n : Int)) := by omega
  have hA : (4 : Int) + (n : Int) = (en : Int) := by omega
  have hA8 : (en : Int) + 4 = (e8 : Int) := by omega
  have hc' : ¬ ((len : Int) < (e8 : Int)) := by omega
  have hb8 : e8 ≤ 1000000 := by omega
  have hben : en ≤ 1000000 := by omega
  have hlen : en ≤ len := by omega
  have hce : cap ≠ en := by omega
  have hce4 : cap ≠ 4 := by omega
  have h4n : 4 ≤ en := by omega
  have hcen : en ≤ cap := by omega
  subst hx
  clear hen he8
  go_enter Tryz.func73, Tryz.ntmps73
  go_wp2_with (first | (go_at_call 91; refine (unhide HW).mono ?_; rintro e w1 ⟨rfl, m1, hw1⟩; have hb1 : Below w.heap.size w w1 := (by rw [hw1]; exact drew_below w m1); clear HW hw1))
  go_quiet (first
    | (go_at_call 92; refine Calls.quiet_of_same (unhide HS _ (bt hb1 (drew_below w1 _))))
    | (go_at_call 91; refine Calls.quiet_of (unhide HW2 _ (bt hb1 (drew_below w1 _)))))
  go_wp2_with (first | (go_at_call 50; refine (unhide HC _ (bt hb1 (drew_below w1 _))).mono ?_; rintro e w3 ⟨v3, rfl, hv3, hb3⟩))
  go_ret3
  exact ⟨_, rfl, own_weaker (bt hb1 (drew_below w1 _)).size hv3, bt (bt hb1 (drew_below w1 _)) hb3⟩
theorem unframe_new (v : Value) (l lm : List UInt8) (k : Nat) (w : World) (hT : ST w) (hl3 : l.length ≤ 1000000) (hv : RBp w w.heap.size v l) (hu : unfr l = (lm, k, 0)) :
    Calls Tryz.prog 73 #[v] w fun e w' => ∃ p, e = .returned (.tuple #[p, .int .i64 (k : Int), .nilIface]) ∧ w'.ownsRow w.heap.size 5 1 p lm.length (byteCells lm) ∧ Below w.heap.size w w' := by
  have hrow := hv
  obtain ⟨ad, kk, rfl⟩ := rb_len hv
  by_cases h4 : l.length < 4
  · simp [unfr, h4] at hu
  obtain ⟨hlen, ⟨hn, hn2⟩ | ⟨b, off, cap, hbB, hcap, hm, hveq, hcell⟩⟩ := hv
  · rw [hn2] at h4; simp at h4
  injection hveq with e1 e2 e3
  subst e1 e3
  have hn := wdOf_lt l
  have HW := hide (word_is (cap := kk) hbB (Below.refl _ _) (by omega) hlen rfl hcell)
  by_cases hg : 262144 < wdOf l
  · simp [unfr, h4, hg] at hu
  by_cases hc : l.length < wdOf l + 8
  · simp [unfr, h4, hg, hc] at hu
  have HS : Hid (∀ W, Below w.heap.size w W → Calls Tryz.prog 92 #[.slice (some ⟨b, off, none⟩) (4 + wdOf l) kk] W fun e w' => e = .returned (.int .u32 ((crc (l.take (4 + wdOf l)) : Nat) : Int)) ∧ w' = W) :=
    hide fun W hW => sum_any _ _ _ W (rb_first (rb_later hrow hW (Nat.le_refl _)) (by omega)) (hT.later hW)
  have hd : (l.drop (4 + wdOf l)).length = l.length - (4 + wdOf l) := by simp
  have HW2 : Hid (∀ W, Below w.heap.size w W → Calls Tryz.prog 91 #[.slice (some ⟨b, off + (4 + wdOf l), none⟩) (l.length - (4 + wdOf l)) (kk - (4 + wdOf l))] W fun e w' => e = .returned (.int .u32 ((wdOf (l.drop (4 + wdOf l)) : Nat) : Int)) ∧ ∃ m, w' = W.drewN m) :=
    hide fun W hW => word_is hbB hW (by omega) (by omega) hd (fun i hi => by
      have := hcell (4 + wdOf l + i) (by rw [hd] at hi; omega)
      rw [Nat.add_assoc, this]
      simp [List.getD_eq_getElem?_getD, List.getElem?_drop])
  have em : wdOf l + 4 = 4 + wdOf l := by omega
  by_cases hx : crc (l.take (4 + wdOf l)) = wdOf (l.drop (4 + wdOf l))
  · have e : unfr l = ((l.drop 4).take (wdOf l), 4 + wdOf l + 4, 0) := by simp [unfr, h4, hg, hc, em, hx]
    rw [e] at hu
    simp only [Prod.mk.injEq] at hu
    obtain ⟨rfl, rfl, _⟩ := hu
    have hmid := rb_mid (a := 4) (n := wdOf l) hbB (by omega) hcap hm hlen hcell
    exact unframe_fine2 b off kk l.length (wdOf l) w (by omega) hlen hn HW _ _ rfl rfl (by omega) hcap hm (by omega) _ _ HS HW2 hx _ (hide fun W hW => clone_new _ _ _ _ W (by simp; omega) (rb_later hmid hW hW.size))
  · simp [unfr, h4, hg, hc, em, hx] at hu


/-- A row of bytes of its own, laid open. -/
theorem own_open {w : World} {B : Nat} {v : Value} {l : List UInt8} (h : w.ownsRow B 5 1 v l.length (byteCells l)) (hne : l ≠ []) :
    ∃ g cap, v = .slice (some ⟨g, 0, none⟩) l.length cap ∧ B ≤ g ∧ g < w.heap.size ∧ l.length ≤ cap ∧ cap ≤ maxLen ∧ ∀ i, i < l.length → w.cell? ⟨g, 0 + i, none⟩ = some (.int .u8 ((l.getD i 0).toNat : Int)) := by
  rcases h.2 with ⟨rfl, h0⟩ | ⟨g, cap, cur, rfl, hB, hc, h1, h2, h3, h4⟩
  · exact absurd (List.eq_nil_of_length_eq_zero h0) hne
  · refine ⟨g, cap, rfl, hB, (Array.getElem?_eq_some_iff.1 hc).1, h1, h2, fun i hi => ?_⟩
    rw [(Dk.cellB hc _).1, Nat.zero_add, ← Array.getElem?_toList]
    have e1 : (cur.toList.take (l.length * 1))[i]? = cur.toList[i]? := List.getElem?_take_of_lt (by omega)
    rw [← e1, h4]
    simp [byteCells, hi]
/-- A slice that reads as these bytes, in blocks from lo on. -/
def RBn (w : World) (lo : Nat) (v : Value) (l : List UInt8) : Prop :=
  l.length ≤ 1000000000 ∧ ((v = .slice none 0 0 ∧ l = []) ∨
    ∃ b off cap, b < w.heap.size ∧ lo ≤ b ∧ l.length ≤ cap ∧ cap ≤ maxLen ∧ v = .slice (some ⟨b, off, none⟩) l.length cap ∧ ∀ i, i < l.length → w.cell? ⟨b, off + i, none⟩ = some (.int .u8 ((l.getD i 0).toNat : Int)))
theorem RBn.rb {w : World} {lo : Nat} {v : Value} {l : List UInt8} (h : RBn w lo v l) : RBp w w.heap.size v l := by
  obtain ⟨h1, h2 | ⟨b, off, cap, hb, _, h3, h4, h5, h6⟩⟩ := h
  · exact ⟨by omega, .inl h2⟩
  · exact ⟨by omega, .inr ⟨b, off, cap, hb, h3, h4, h5, h6⟩⟩
theorem RBn.later {w w' : World} {lo : Nat} {v : Value} {l : List UInt8} (h : RBn w lo v l) (hb : Below w.heap.size w w') : RBn w' lo v l := by
  obtain ⟨h1, h2 | ⟨b, off, cap, hbl, h0, h3, h4, h5, h6⟩⟩ := h
  · exact ⟨h1, .inl h2⟩
  · exact ⟨h1, .inr ⟨b, off, cap, Nat.lt_of_lt_of_le hbl hb.size, h0, h3, h4, h5, fun i hi => (hb.cell (p := ⟨b, off + i, none⟩) hbl).trans (h6 i hi)⟩⟩

theorem unp_end {w3 W : World} {i t N li lt lo g q cap len : Nat} {l : List UInt8} (hg : g < w3.heap.size) (hz : w3.heap.size ≤ W.heap.size) (hs : W.heap[g]? = w3.heap[g]?) (hlo : lo ≤ g) (hN : N = li + lt + l.length) (hd : (snB i t l).drop (li + lt) = l) (hc : N = (snB i t l).length) (hlen : len = N - li - lt) (hl : l.length ≤ 262080)
    (hq : q = li + lt ∨ l.length = 0) (h1 : len ≤ cap) (h2 : cap ≤ maxLen) (hcell : ∀ j, j < N → w3.cell? ⟨g, 0 + j, none⟩ = some (.int .u8 (((snB i t l).getD j 0).toNat : Int))) : RBn W lo (.slice (some ⟨g, q, none⟩) len cap) l := by
  have hll : len = l.length := by omega
  subst hll
  refine ⟨by omega, .inr ⟨g, q, cap, by omega, hlo, h1, h2, rfl, fun j hj => ?_⟩⟩
  obtain rfl : q = li + lt := by omega
  have h3 := hcell (li + lt + j) (by omega)
  rw [Nat.zero_add] at h3
  rw [World.cell?_of_block (w := w3) hs, h3]
  have h4 : (snB i t l).getD (li + lt + j) 0 = ((snB i t l).drop (li + lt)).getD j 0 := by simp [List.getD_eq_getElem?_getD, List.getElem?_drop]
  rw [h4, hd]
theorem set3_block (w : World) (p g : Nat) (a b c : Value) (h : g ≠ p) : (((w.setCell ⟨p, 0, none⟩ a).setCell ⟨p, 1, none⟩ b).setCell ⟨p, 2, none⟩ c).heap[g]? = w.heap[g]? := by
  rw [Below.heap_setCell _ _ _ _ h, Below.heap_setCell _ _ _ _ h, Below.heap_setCell _ _ _ _ h]
theorem set3_below {B : Nat} {a w : World} {p : Nat} (h : Below B a w) (hp : B ≤ p) (x y z : Value) : Below B a (((w.setCell ⟨p, 0, none⟩ x).setCell ⟨p, 1, none⟩ y).setCell ⟨p, 2, none⟩ z) :=
  ((h.setCell (p := ⟨p, 0, none⟩) hp x).setCell (p := ⟨p, 1, none⟩) hp y).setCell (p := ⟨p, 2, none⟩) hp z
theorem set3_size (w : World) (p : Nat) (a b c : Value) : (((w.setCell ⟨p, 0, none⟩ a).setCell ⟨p, 1, none⟩ b).setCell ⟨p, 2, none⟩ c).heap.size = w.heap.size := by simp

end Go.Proofs.YthphadbcebeoaaaGreatDoor
