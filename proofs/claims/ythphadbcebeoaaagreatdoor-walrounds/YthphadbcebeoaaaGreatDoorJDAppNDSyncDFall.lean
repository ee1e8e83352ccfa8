/- Append to a new file; Append, whatever the name. -/
import Derived.Test.YthphadbcebeoaaaGreatDoorJDFitsDAppSDAppWDAppO
namespace Go.Proofs.YthphadbcebeoaaaGreatDoor.Dk
open Go.RowKit Go.Lib Go.Maps Go.WideMaps

theorem appC_new {S : St} {L : List Ent} {n : List UInt8} {m : Nat} (hlk : look L n = none) (han : anotherC L n = 0) : appC S L n m = if fitsB S L 0 m = true then 0 else 31 := by
  unfold appC; rw [hlk]; exact if_pos han
theorem anotherC_few {L : List Ent} {n : List UInt8} (han : anotherC L n = 0) : L.length < 64 := by
  unfold anotherC at han
  split at han
  · split at han
    · assumption
    · exact absurd han (by decide)
  · exact absurd han (by decide)

set_option maxHeartbeats 6400000 in
set_option maxRecDepth 100000 in
theorem append_new_no {w : World} {p : Nat} {S : St} {mb : Option Nat} {L : List Ent} {O : Nat → Prop} (s : ByteArray) (a : Option Addr) (k : Nat) (lb : List UInt8) (h : DK w p S mb L O) (hO : ∀ k, O k → k < w.heap.size) (hE : ET w) (hs : s.size ≤ maxLen)
    (hr : 0 ≤ S.room ∧ S.room ≤ 4611686018427387904) (hc : 0 ≤ S.count ∧ S.count < 1000000000) (hl : S.halting = true → 0 ≤ S.left ∧ S.left < 9223372036854775808) (hlk : look L s.data.toList = none) (han : anotherC L s.data.toList = 0)
    (hno : (beginS S (appC S L s.data.toList lb.length)).2 ≠ 0) :
    Calls Tryz.prog 25 #[.pointer (some ⟨p, 0, none⟩), .string s, .slice a lb.length k] w (AppPost w p S L O s.data.toList lb) := by
  have HF := hide (find_any s h hs)
  have hfr : FindRes L s.data.toList = .tuple #[.pointer none, evC 30] := by unfold FindRes; rw [hlk]
  rw [hfr] at HF
  have HA := hide (another_ok s h hs han)
  have hb0 : Below w.heap.size w (w.alloc (.cells #[.slice none 0 0, .int .i64 0] 104)) := (Below.refl _ _).alloc (Nat.le_refl _) _
  have HT := hide (fits_any w.heap.size 0 lb.length none 0 (h.below hO hb0) hr (by decide) (by simp))
  have hC := appC_new (S := S) (m := lb.length) hlk han
  have HB := hide (fun (w1 : World) (hb : Below w.heap.size w w1) (v : Value) (c : Int) (hv : ErrIn w1 v c) (hw : ∀ b, v = evW b → ¬ Old w b) =>
    begin_any (w := w1) s v c (h.below hO hb) (fun k hk => Nat.lt_of_lt_of_le (hO k hk) hb.size) (Old w) (fun _ hk => Nat.lt_of_lt_of_le hk hb.size) (hE.below hb hE.lt) hv hw hc hl)
  have HD := hide (fun (w1 : World) (hb : Below (w.alloc (.cells #[.slice none 0 0, .int .i64 0] 104)).heap.size (w.alloc (.cells #[.slice none 0 0, .int .i64 0] 104)) w1) => hb0.trans (hb.mono (by simp)))
  unfold AppPost
  rw [hC] at hno ⊢
  clear h hC hfr hE hb0
  by_cases hfit : fitsB S L 0 lb.length = true
  · rw [if_pos hfit] at hno ⊢
    rw [hfit] at HT
    have HX : Hid (∀ w' v', ErrOut (Old w) w' v' (beginS S 0).2 → ∃ b, v' = evW b) := fun w' v' h1 => by
      rcases h1 with ⟨_, h2⟩ | ⟨_, b, hb, _⟩
      · exact absurd h2 hno
      · exact ⟨b, hb⟩
    go_enter Tryz.func25, Tryz.ntmps25
    go_wp2_with (first
      | (go_at_call 44; refine (unhide HF).mono ?_; rintro e0 w0 ⟨rfl, rfl⟩)
      | (go_at_call 29; refine (is_class 30 30 _).mono ?_; rintro e0 w0 ⟨rfl, rfl⟩)
      | (go_at_call 45; refine (unhide HA).mono ?_; rintro e0 w1 ⟨rfl, rfl⟩)
      | (go_at_call 46; refine (unhide HT).mono ?_; rintro e0 w1 ⟨rfl, hb1⟩; have hb2 := unhide HD _ hb1)
      | (go_at_call 47; refine (unhide HB _ hb2 _ 0 (.inl ⟨rfl, rfl⟩) (fun b hb => by cases hb)).mono ?_; rintro e0 w2 ⟨v1, rfl, he1, hd1, hf1⟩; obtain ⟨b1, rfl⟩ := unhide HX _ _ he1))
    go_ret
    exact ⟨_, mb, L, rfl, he1, hd1.mono (fun k hk => .inl hk), FrO.trans (FrO.of_below (O := O) hb2) hf1 (fun _ _ hh => hh), fun _ => rfl, fun hh => absurd hh hno⟩
  · have hfit' : fitsB S L 0 lb.length = false := by simpa using hfit
    rw [if_neg hfit] at hno ⊢
    rw [hfit'] at HT
    have HX : Hid (∀ w' v', ErrOut (Old w) w' v' (beginS S 31).2 → ∃ b, v' = evW b) := fun w' v' h1 => by
      rcases h1 with ⟨_, h2⟩ | ⟨_, b, hb, _⟩
      · exact absurd h2 hno
      · exact ⟨b, hb⟩
    go_enter Tryz.func25, Tryz.ntmps25
    go_wp2_with (first
      | (go_at_call 44; refine (unhide HF).mono ?_; rintro e0 w0 ⟨rfl, rfl⟩)
      | (go_at_call 29; refine (is_class 30 30 _).mono ?_; rintro e0 w0 ⟨rfl, rfl⟩)
      | (go_at_call 45; refine (unhide HA).mono ?_; rintro e0 w1 ⟨rfl, rfl⟩)
      | (go_at_call 46; refine (unhide HT).mono ?_; rintro e0 w1 ⟨rfl, hb1⟩; have hb2 := unhide HD _ hb1)
      | (go_at_call 47; refine (unhide HB _ hb2 _ 31 (.inr ⟨by decide, .inl rfl⟩) (fun b hb => by cases hb)).mono ?_; rintro e0 w2 ⟨v1, rfl, he1, hd1, hf1⟩; obtain ⟨b1, rfl⟩ := unhide HX _ _ he1))
    go_ret
    exact ⟨_, mb, L, rfl, he1, hd1.mono (fun k hk => .inl hk), FrO.trans (FrO.of_below (O := O) hb2) hf1 (fun _ _ hh => hh), fun _ => rfl, fun hh => absurd hh hno⟩

set_option maxHeartbeats 6400000 in
set_option maxRecDepth 100000 in
theorem append_new_ok {w : World} {p : Nat} {S : St} {mb : Option Nat} {L : List Ent} {O : Nat → Prop} (s : ByteArray) (v : Value) (lb : List UInt8) (h : DK w p S mb L O) (hO : ∀ k, O k → k < w.heap.size) (hE : ET w) (hs : s.size ≤ 1000)
    (hr : 0 ≤ S.room ∧ S.room ≤ 4611686018427387904) (hc : 0 ≤ S.count ∧ S.count < 1000000000) (hl : S.halting = true → 0 ≤ S.left ∧ S.left < 9223372036854775808) (hlk : look L s.data.toList = none) (han : anotherC L s.data.toList = 0)
    (hv : RBo w O v lb) (hno : (beginS S (appC S L s.data.toList lb.length)).2 = 0) :
    Calls Tryz.prog 25 #[.pointer (some ⟨p, 0, none⟩), .string s, v] w (AppPost w p S L O s.data.toList lb) := by
  have hsm : s.size ≤ maxLen := by unfold maxLen; omega
  obtain ⟨a, k, rfl⟩ := hv.slice
  have HF := hide (find_any s h hsm)
  have hfr : FindRes L s.data.toList = .tuple #[.pointer none, evC 30] := by unfold FindRes; rw [hlk]
  rw [hfr] at HF
  have HA := hide (another_ok s h hsm han)
  have hb0 : Below w.heap.size w (w.alloc (.cells #[.slice none 0 0, .int .i64 0] 104)) := (Below.refl _ _).alloc (Nat.le_refl _) _
  have HT := hide (fits_any w.heap.size 0 lb.length none 0 (h.below hO hb0) hr (by decide) (by simp))
  have hC := appC_new (S := S) (m := lb.length) hlk han
  have hfit : fitsB S L 0 lb.length = true := by
    by_cases hf : fitsB S L 0 lb.length = true
    · exact hf
    · rw [hC, if_neg hf] at hno; exact absurd hno (beginS_ne (by decide)).1
  have hfl := fits_le hfit
  have hfew := anotherC_few han
  have h0 : appC S L s.data.toList lb.length = 0 := by rw [hC, if_pos hfit]
  have HB := hide (fun (w1 : World) (hb : Below w.heap.size w w1) =>
    begin_any (w := w1) s .nilIface 0 (h.below hO hb) (fun k hk => Nat.lt_of_lt_of_le (hO k hk) hb.size) (Old w) (fun _ hk => Nat.lt_of_lt_of_le hk hb.size) (hE.below hb hE.lt) (.inl ⟨rfl, rfl⟩) (fun b hb => by cases hb) hc hl)
  have HD := hide (fun (w1 : World) (hb : Below (w.alloc (.cells #[.slice none 0 0, .int .i64 0] 104)).heap.size (w.alloc (.cells #[.slice none 0 0, .int .i64 0] 104)) w1) => hb0.trans (hb.mono (by simp)))
  have hblk0 : (w.alloc (.cells #[.slice none 0 0, .int .i64 0] 104)).heap[w.heap.size]? = some (.cells #[.slice none 0 0, .int .i64 0] 104 (0, 0)) := (MapKept.heap_alloc w _).1
  have hnO : ¬ O w.heap.size := fun hh => absurd (hO _ hh) (by omega)
  unfold AppPost oldData oldSure
  rw [h0] at hno ⊢
  rw [hlk]
  rw [hfit] at HT
  have HX : Hid (∀ w' v', ErrOut (Old w) w' v' (beginS S 0).2 → v' = .nilIface) := fun w' v' h1 => by
    rcases h1 with ⟨hh, _⟩ | ⟨h2, _⟩
    · exact hh
    · exact absurd hno h2
  have HS : Hid (∀ w1 w2, Below (w.alloc (.cells #[.slice none 0 0, .int .i64 0] 104)).heap.size (w.alloc (.cells #[.slice none 0 0, .int .i64 0] 104)) w1 → FrO O w1 w2 → w2.heap[w.heap.size]? = some (.cells #[.slice none 0 0, .int .i64 0] 104 (0, 0)) ∧ w2.cell? ⟨w.heap.size, 0, none⟩ = some (.slice none 0 0) ∧ RBo w2 O (.slice a lb.length k) lb ∧ FrO O w w2 ∧ (∀ k, O k → k < w2.heap.size) ∧ w.heap.size < w2.heap.size) := by
    intro w1 w2 hb hf
    have hb1 := unhide HD w1 hb
    have hf2 : FrO O w w2 := FrO.trans (FrO.of_below (O := O) hb1) hf (fun _ _ hh => hh)
    have hs1 := hb.size
    simp at hs1
    have hbl : w2.heap[w.heap.size]? = some (.cells #[.slice none 0 0, .int .i64 0] 104 (0, 0)) :=
      ((hf.blk _ (by omega) hnO).trans (hb.block _ (by simp))).trans hblk0
    refine ⟨hbl, by rw [(cellB hbl 0).1]; rfl, hv.fr hf2, hf2, fun k hk => Nat.lt_of_lt_of_le (hO k hk) hf2.size, ?_⟩
    have := hf.size
    omega
  have HP : Hid (∀ w2 w3 v3, w2.heap[w.heap.size]? = some (.cells #[.slice none 0 0, .int .i64 0] 104 (0, 0)) → FrO O w w2 → (∀ k, O k → k < w2.heap.size) → DK w2 p (beginS S 0).1 mb L O → w3.ownsRow 0 5 1 v3 lb.length ([] ++ byteCells lb) → w2.grownBy w3 (Value.slice none 0 0).ownBlock → (v3.ownBlock = (Value.slice none 0 0).ownBlock ∨ v3.ownBlock = some w2.heap.size) →
      w3.cell? ⟨w.heap.size, 0, none⟩ = some (.slice none 0 0) ∧ w3.frozen? ⟨w.heap.size, 0, none⟩ = false ∧ Calls Tryz.prog 48 #[.pointer (some ⟨p, 0, none⟩), .string s, .pointer (some ⟨w.heap.size, 0, none⟩)] (w3.setCell ⟨w.heap.size, 0, none⟩ v3) fun ev w' => ev = .returned (.tuple #[]) ∧ ∃ mb', DK w' p (beginS S 0).1 mb' (putE ⟨s.data.toList, w.heap.size, v3, lb, 0⟩ L) (From O w.heap.size w') ∧ FrO O w w') := by
    intro w2 w3 v3 hbl hf2 hO2 hd2 hrow hg hloc
    have hfp2 : w.heap.size < w2.heap.size := (Array.getElem?_eq_some_iff.1 hbl).1
    have hb3 : w3.heap[w.heap.size]? = some (.cells #[.slice none 0 0, .int .i64 0] 104 (0, 0)) := (hg.block _ hfp2 (by simp [Value.ownBlock])).trans hbl
    have hlt3 : w2.heap.size ≤ w3.heap.size := hg.size
    have hvb : ∀ k, v3.ownBlock = some k → k = w2.heap.size ∧ k < w3.heap.size := fun k hk => by
      rcases hloc with hl | hl
      · rw [hl] at hk; simp [Value.ownBlock] at hk
      · rw [hl] at hk; cases hk
        refine ⟨rfl, ?_⟩
        rcases hrow.2 with ⟨e1, _⟩ | ⟨g, cap, cur, e1, _, hc, _⟩
        · rw [e1] at hl; simp [Value.ownBlock] at hl
        · rw [e1] at hl; simp [Value.ownBlock] at hl; subst hl
          exact (Array.getElem?_eq_some_iff.1 hc).1
    have hd3 : DK (w3.setCell ⟨w.heap.size, 0, none⟩ v3) p (beginS S 0).1 mb L O := hd2.same (fun k hk => by
      have h1 := hO k hk
      rw [heap_setCell_ne 0 v3 (by omega)]
      exact hg.block k (hO2 k hk) (by simp [Value.ownBlock]))
    have hfile : FileAt (w3.setCell ⟨w.heap.size, 0, none⟩ v3) ⟨s.data.toList, w.heap.size, v3, lb, 0⟩ := by
      refine ⟨heap_setCell_at hb3 0 v3, ownsRow_of_same (w := w3) ?_ (fun k hk => heap_setCell_ne 0 v3 (by have := hvb k hk; omega)), Nat.zero_le _, by show lb.length ≤ 1048576; omega⟩
      show w3.ownsRow 0 5 1 v3 lb.length (byteCells lb)
      rw [List.nil_append] at hrow
      exact hrow
    have hfr3 : FrO O w2 w3 := grown_fr hg (by simp [Value.ownBlock])
    have hsz : (w3.setCell ⟨w.heap.size, 0, none⟩ v3).heap.size = w3.heap.size := by simp
    have hw2 := hf2.size
    have hsz2 : w.heap.size ≤ (w3.setCell ⟨w.heap.size, 0, none⟩ v3).heap.size := by rw [hsz]; omega
    have hsz3 : w.heap.size < (w3.setCell ⟨w.heap.size, 0, none⟩ v3).heap.size := by rw [hsz]; omega
    refine ⟨by rw [(cellB hb3 0).1]; rfl, (cellB hb3 0).2, ?_⟩
    have hput : (putE ⟨s.data.toList, w.heap.size, v3, lb, 0⟩ L).length ≤ 64 := by
      unfold putE
      rw [length_insE, delE_all (look_none hlk)]
      omega
    have hapart : ∀ x ∈ L, Apart x ⟨s.data.toList, w.heap.size, v3, lb, 0⟩ := fun x hx => by
      refine ⟨?_, fun k hk hk' => ?_⟩
      · have := hO _ (hd3.oF x hx)
        show x.fp ≠ w.heap.size
        omega
      · have h1 := hO _ (hd3.oR x hx k hk)
        have h2 := hvb k hk'
        omega
    refine (put_any s ⟨s.data.toList, w.heap.size, v3, lb, 0⟩ rfl (hd3.mono (O' := From O w.heap.size (w3.setCell ⟨w.heap.size, 0, none⟩ v3)) (fun k hk => .inl hk)) (From.lt hO hsz2) hs hfile (fun x hx _ => ⟨hapart x hx, (hapart x hx).symm⟩) (.inr ⟨Nat.le_refl _, hsz3⟩) (fun k hk => .inr ⟨by have := (hvb k hk).1; omega, by have := (hvb k hk).2; rw [hsz]; exact this⟩) hput).mono ?_
    rintro ev w' ⟨rfl, mb', hd5, hf5⟩
    have h45 := hf5.size
    refine ⟨rfl, mb', hd5.mono (fun k hk => ?_), ?_⟩
    · rw [hsz] at h45
      rcases hk with (hk | hk) | hk
      · exact .inl hk
      · rw [hsz] at hk; exact .inr ⟨by omega, by omega⟩
      · rw [hsz] at hk; exact .inr ⟨by omega, by omega⟩
    · have hA : FrO (From O w.heap.size (w3.setCell ⟨w.heap.size, 0, none⟩ v3)) w2 (w3.setCell ⟨w.heap.size, 0, none⟩ v3) :=
        FrO.set ⟨hfr3.size, fun k hk hn => hfr3.blk k hk (fun hh => hn (.inl hh)), hfr3.env⟩ (.inr ⟨Nat.le_refl _, hsz3⟩) 0 v3
      exact FrO.trans hf2 (FrO.trans hA hf5 (fun _ _ hh => hh)) (fun k hk hh => hh.elim id (fun hh => absurd hk (by omega)))
  clear h hfr hE hv hc hl hr hblk0 hb0
  go_enter Tryz.func25, Tryz.ntmps25
  go_wp2_with (first
    | (go_at_call 44; refine (unhide HF).mono ?_; rintro e0 w0 ⟨rfl, rfl⟩)
    | (go_at_call 29; refine (is_class 30 30 _).mono ?_; rintro e0 w0 ⟨rfl, rfl⟩)
    | (go_at_call 45; refine (unhide HA).mono ?_; rintro e0 w1 ⟨rfl, rfl⟩)
    | (go_at_call 46; refine (unhide HT).mono ?_; rintro e0 w1 ⟨rfl, hb1⟩; have hb2 := unhide HD _ hb1)
    | (go_at_call 47; refine (unhide HB _ hb2).mono ?_; rintro e0 w2 ⟨v1, rfl, he1, hd1, hf1⟩; have e1 := unhide HX _ _ he1; subst e1; obtain ⟨bl2, c2, b2, g2, o2, _⟩ := unhide HS _ _ hb1 hf1)
    | (at_builtin; refine wpList_append_at (w := w2) rfl _ _ rfl (.slice none 0 0) 0 [] rfl (World.ownsRow_nil _ _ _ _) O (.slice a lb.length k) lb rfl b2 (by omega) ?_; intro v3 w3 hrow3 hg3 hloc3; rw [Nat.zero_add] at hrow3; obtain ⟨a3, k3, rfl⟩ := own_sl hrow3; obtain ⟨c3, f3, P3⟩ := unhide HP _ _ _ bl2 g2 o2 hd1 hrow3 hg3 hloc3)
    | (go_at_call 48; refine P3.mono ?_; rintro e0 w4 ⟨rfl, mb4, hd4, hf4⟩))
  go_ret
  exact ⟨_, mb4, _, rfl, .inl ⟨rfl, hno⟩, hd4, hf4, fun hh => absurd hno hh, fun _ => ⟨_, rfl, rfl, rfl, rfl⟩⟩

/-- Append, whatever the name, the bytes, the state. -/
theorem append_any {w : World} {p : Nat} {S : St} {mb : Option Nat} {L : List Ent} {O : Nat → Prop} (s : ByteArray) (v : Value) (lb : List UInt8) (h : DK w p S mb L O) (hO : ∀ k, O k → k < w.heap.size) (hE : ET w) (hs : s.size ≤ 1000)
    (hr : 0 ≤ S.room ∧ S.room ≤ 4611686018427387904) (hc : 0 ≤ S.count ∧ S.count < 1000000000) (hl : S.halting = true → 0 ≤ S.left ∧ S.left < 9223372036854775808) (hv : RBo w O v lb) :
    Calls Tryz.prog 25 #[.pointer (some ⟨p, 0, none⟩), .string s, v] w (AppPost w p S L O s.data.toList lb) := by
  have hsm : s.size ≤ maxLen := by unfold maxLen; omega
  obtain ⟨a, k, hvs⟩ := hv.slice
  by_cases hno : (beginS S (appC S L s.data.toList lb.length)).2 = 0
  · cases hlk : look L s.data.toList with
    | some e => exact append_old_ok s v lb e h hO hE hs hr hc hl hlk hv hno
    | none =>
      by_cases han : anotherC L s.data.toList = 0
      · exact append_new_ok s v lb h hO hE hs hr hc hl hlk han hv hno
      · exact append_bad s v lb h hO hE hsm hc hl hlk han
  · cases hlk : look L s.data.toList with
    | some e => rw [hvs]; exact append_old_no s a k lb e h hO hE hsm hr hc hl hlk hno
    | none =>
      by_cases han : anotherC L s.data.toList = 0
      · rw [hvs]; exact append_new_no s a k lb h hO hE hsm hr hc hl hlk han hno
      · exact append_bad s v lb h hO hE hsm hc hl hlk han
end Go.Proofs.YthphadbcebeoaaaGreatDoor.Dk
/- Sync: all of a file is sure. -/
namespace Go.Proofs.YthphadbcebeoaaaGreatDoor.Dk
open Go.RowKit Go.Lib Go.Maps Go.WideMaps

def thereC (L : List Ent) (n : List UInt8) : Int := match look L n with | some _ => 0 | none => 30
def syncE (e : Ent) : Ent := { e with sure := e.data.length }

theorem dk_sync {w : World} {p : Nat} {S : St} {mb : Option Nat} {L : List Ent} {O : Nat → Prop} (h : DK w p S mb L O) (hO : ∀ k, O k → k < w.heap.size) (e : Ent) (he : e ∈ L) :
    DK (w.setCell ⟨e.fp, 1, none⟩ (.int .i64 (e.data.length : Int))) p S mb (repl (syncE e) L) O ∧ FrO O w (w.setCell ⟨e.fp, 1, none⟩ (.int .i64 (e.data.length : Int))) := by
  have hef := h.files e he
  have hne : e.v.ownBlock ≠ some e.fp := by
    intro hx
    rcases hef.row.2 with ⟨e1, _⟩ | ⟨g, cap, cur, e1, _, hc, _⟩
    · rw [e1] at hx; simp [Value.ownBlock] at hx
    · rw [e1] at hx; simp [Value.ownBlock] at hx; subst hx; rw [hef.blk] at hc; injection hc with hc; injection hc with _ h2; exact absurd h2 (by decide)
  have hf : FileAt (w.setCell ⟨e.fp, 1, none⟩ (.int .i64 (e.data.length : Int))) (syncE e) :=
    ⟨heap_setCell_at hef.blk 1 _, ownsRow_of_same (w := w) hef.row (fun k hk => heap_setCell_ne 1 _ (fun hx => hne (by rw [← hx]; exact hk))), Nat.le_refl _, hef.len⟩
  exact ⟨dk_repl h e (syncE e) he rfl rfl hf (fun k hk => hk) (h.oR e he) hO (.inl rfl) (fun k _ h1 _ => heap_setCell_ne 1 _ h1), (FrO.refl O w).set (h.oF e he) 1 _⟩

/-- What Sync leaves. -/
def SyncPost (w : World) (p : Nat) (S : St) (mb : Option Nat) (L : List Ent) (O : Nat → Prop) (n : List UInt8) (e : Ending) (w' : World) : Prop :=
  ∃ v L', e = .returned v ∧ ErrOut (Old w) w' v (beginS S (thereC L n)).2 ∧ DK w' p (beginS S (thereC L n)).1 mb L' O ∧ FrO O w w' ∧
    ((beginS S (thereC L n)).2 ≠ 0 → L' = L) ∧ ((beginS S (thereC L n)).2 = 0 → ∃ e', look L n = some e' ∧ L' = repl (syncE e') L)

set_option maxHeartbeats 3200000 in
set_option maxRecDepth 100000 in
theorem sync_any {w : World} {p : Nat} {S : St} {mb : Option Nat} {L : List Ent} {O : Nat → Prop} (s : ByteArray) (h : DK w p S mb L O) (hO : ∀ k, O k → k < w.heap.size) (hE : ET w) (hs : s.size ≤ maxLen)
    (hc : 0 ≤ S.count ∧ S.count < 1000000000) (hl : S.halting = true → 0 ≤ S.left ∧ S.left < 9223372036854775808) :
    Calls Tryz.prog 26 #[.pointer (some ⟨p, 0, none⟩), .string s] w (SyncPost w p S mb L O s.data.toList) := by
  have HF := hide (find_any s h hs)
  unfold FindRes at HF
  unfold SyncPost thereC
  cases hlk : look L s.data.toList with
  | none =>
    rw [hlk] at HF
    have HB := hide (begin_any s (evC 30) 30 h hO (Old w) (fun _ hh => hh) hE (.inr ⟨by decide, .inl rfl⟩) (fun b hb => by cases hb) hc hl)
    have hbs := beginS_ne (S := S) (c := 30) (by decide)
    have HX : Hid (∀ w' v', ErrOut (Old w) w' v' (beginS S 30).2 → ∃ b, v' = evW b) := fun w' v' h1 => by
      rcases h1 with ⟨_, h2⟩ | ⟨_, b, hb, _⟩
      · exact absurd h2 hbs.1
      · exact ⟨b, hb⟩
    clear h
    go_enter Tryz.func26, Tryz.ntmps26
    go_wp2_with (first
      | (go_at_call 44; refine (unhide HF).mono ?_; rintro e0 w0 ⟨rfl, rfl⟩)
      | (go_at_call 47; refine (unhide HB).mono ?_; rintro e0 w1 ⟨v1, rfl, he1, hd1, hf1⟩; obtain ⟨b1, rfl⟩ := unhide HX _ _ he1))
    go_ret
    exact ⟨_, L, rfl, he1, hd1, hf1, fun _ => rfl, fun hh => absurd hh hbs.1⟩
  | some e =>
    rw [hlk] at HF
    obtain ⟨hem, hen⟩ := look_mem hlk
    have HB := hide (begin_any s .nilIface 0 h hO (Old w) (fun _ hh => hh) hE (.inl ⟨rfl, rfl⟩) (fun b hb => by cases hb) hc hl)
    by_cases hno : (beginS S 0).2 = 0
    · have HX : Hid (∀ w' v', ErrOut (Old w) w' v' (beginS S 0).2 → v' = .nilIface) := fun w' v' h1 => by
        rcases h1 with ⟨hh, _⟩ | ⟨h2, _⟩
        · exact hh
        · exact absurd hno h2
      have HP : Hid (∀ w1, FrO O w w1 → DK w1 p (beginS S 0).1 mb L O → (∃ a0 k0, w1.cell? ⟨e.fp, 0, none⟩ = some (.slice a0 e.data.length k0)) ∧ w1.cell? ⟨e.fp, 1, none⟩ = some (.int .i64 (e.sure : Int)) ∧ w1.frozen? ⟨e.fp, 1, none⟩ = false ∧
          DK (w1.setCell ⟨e.fp, 1, none⟩ (.int .i64 (e.data.length : Int))) p (beginS S 0).1 mb (repl (syncE e) L) O ∧ FrO O w1 (w1.setCell ⟨e.fp, 1, none⟩ (.int .i64 (e.data.length : Int)))) := by
        intro w1 hf1 hd1
        have hef := hd1.files e hem
        obtain ⟨a0, k0, hv0⟩ := own_v hef
        have hh := dk_sync hd1 (fun k hk => Nat.lt_of_lt_of_le (hO k hk) hf1.size) e hem
        exact ⟨⟨a0, k0, by rw [(cellB hef.blk 0).1, ← hv0]; rfl⟩, by rw [(cellB hef.blk 1).1]; rfl, (cellB hef.blk 1).2, hh.1, hh.2⟩
      clear h
      go_enter Tryz.func26, Tryz.ntmps26
      go_wp2_with (first
        | (go_at_call 44; refine (unhide HF).mono ?_; rintro e0 w0 ⟨rfl, rfl⟩)
        | (go_at_call 47; refine (unhide HB).mono ?_; rintro e0 w1 ⟨v1, rfl, he1, hd1, hf1⟩; have e1 := unhide HX _ _ he1; subst e1; obtain ⟨⟨a0, k0, c0⟩, c1, f1, d2, g2⟩ := unhide HP _ hf1 hd1))
      go_ret
      exact ⟨_, _, rfl, .inl ⟨rfl, hno⟩, d2, FrO.trans hf1 g2 (fun _ _ hh => hh), fun hh => absurd hno hh, fun _ => ⟨e, rfl, rfl⟩⟩
    · have HX : Hid (∀ w' v', ErrOut (Old w) w' v' (beginS S 0).2 → ∃ b, v' = evW b) := fun w' v' h1 => by
        rcases h1 with ⟨_, h2⟩ | ⟨_, b, hb, _⟩
        · exact absurd h2 hno
        · exact ⟨b, hb⟩
      clear h
      go_enter Tryz.func26, Tryz.ntmps26
      go_wp2_with (first
        | (go_at_call 44; refine (unhide HF).mono ?_; rintro e0 w0 ⟨rfl, rfl⟩)
        | (go_at_call 47; refine (unhide HB).mono ?_; rintro e0 w1 ⟨v1, rfl, he1, hd1, hf1⟩; obtain ⟨b1, rfl⟩ := unhide HX _ _ he1))
      go_ret
      exact ⟨_, L, rfl, he1, hd1, hf1, fun _ => rfl, fun hh => absurd hh hno⟩
end Go.Proofs.YthphadbcebeoaaaGreatDoor.Dk
/- What a fall leaves of a file. -/
namespace Go.Proofs.YthphadbcebeoaaaGreatDoor.Dk
open Go.RowKit Go.Lib Go.Maps Go.WideMaps

def shorten : Value → Nat → Value
  | .slice a _ k, n => .slice a n k
  | v, _ => v
/-- How many bytes are left. -/
def leftN (keep : Int) (e : Ent) : Nat := e.sure + min keep.toNat (e.data.length - e.sure)
def fallE (keep : Int) (e : Ent) : Ent := { e with v := shorten e.v (leftN keep e), data := e.data.take (leftN keep e), sure := leftN keep e }
theorem leftN_le {w : World} {e : Ent} (h : FileAt w e) (keep : Int) : leftN keep e ≤ e.data.length := by
  have := h.sure
  unfold leftN; omega
theorem ownBlock_shorten (v : Value) (n : Nat) : (shorten v n).ownBlock = v.ownBlock := by
  cases v <;> try rfl
  rename_i a _ _
  cases a <;> rfl
theorem fall_file {w : World} {e : Ent} (h : FileAt w e) (keep : Int) : FileAt ((w.setCell ⟨e.fp, 1, none⟩ (.int .i64 (leftN keep e : Int))).setCell ⟨e.fp, 0, none⟩ (shorten e.v (leftN keep e))) (fallE keep e) := by
  have hle := leftN_le h keep
  have hne : e.v.ownBlock ≠ some e.fp := by
    intro hx
    rcases h.row.2 with ⟨e1, _⟩ | ⟨g, cap, cur, e1, _, hc, _⟩
    · rw [e1] at hx; simp [Value.ownBlock] at hx
    · rw [e1] at hx; simp [Value.ownBlock] at hx; subst hx; rw [h.blk] at hc; injection hc with hc; injection hc with _ h2; exact absurd h2 (by decide)
  have hlen : (e.data.take (leftN keep e)).length = leftN keep e := by rw [List.length_take]; omega
  refine ⟨heap_setCell_at (heap_setCell_at h.blk 1 _) 0 _, ownsRow_of_same (w := w) ?_ (fun k hk => ?_), ?_, ?_⟩
  · show w.ownsRow 0 5 1 (shorten e.v (leftN keep e)) (e.data.take (leftN keep e)).length (byteCells (e.data.take (leftN keep e)))
    rw [hlen]
    refine ⟨by rw [Lib.byteCells_length, hlen]; omega, ?_⟩
    rcases h.row.2 with ⟨e1, e2⟩ | ⟨g, cap, cur, e1, h0, hc, h1, h2, h3, h4⟩
    · left
      have : leftN keep e = 0 := by omega
      rw [this, e1]; exact ⟨rfl, rfl⟩
    · right
      refine ⟨g, cap, cur, by rw [e1]; rfl, h0, hc, by omega, h2, h3, ?_⟩
      have : cur.toList.take (leftN keep e * 1) = (cur.toList.take (e.data.length * 1)).take (leftN keep e) := by rw [List.take_take]; congr 1; omega
      rw [this, h4]
      unfold byteCells
      rw [List.map_take]
  · have hk : (shorten e.v (leftN keep e)).ownBlock = some k := hk
    rw [ownBlock_shorten] at hk
    have : k ≠ e.fp := fun hx => hne (by rw [← hx]; exact hk)
    rw [heap_setCell_ne 0 _ this, heap_setCell_ne 1 _ this]
  · show leftN keep e ≤ (e.data.take (leftN keep e)).length
    omega
  · show (e.data.take (leftN keep e)).length ≤ 1048576
    have := h.len; omega

set_option maxHeartbeats 3200000 in
set_option maxRecDepth 100000 in
theorem fall_any {w : World} {e : Ent} (keep : Int) (h : FileAt w e) (hk : -9223372036854775808 ≤ keep ∧ keep ≤ 9223372036854775807) :
    Calls Tryz.prog 36 #[.pointer (some ⟨e.fp, 0, none⟩), .int .i64 keep] w fun ev w' => ev = .returned (.tuple #[]) ∧ w'.heap = ((w.setCell ⟨e.fp, 1, none⟩ (.int .i64 (leftN keep e : Int))).setCell ⟨e.fp, 0, none⟩ (shorten e.v (leftN keep e))).heap ∧ Env w w' := by
  have hle := leftN_le h keep
  have hsu := h.sure
  have hlen := h.len
  have c1 : w.cell? ⟨e.fp, 1, none⟩ = some (.int .i64 (e.sure : Int)) := by rw [(cellB h.blk 1).1]; rfl
  have f0 := (cellB h.blk 0).2
  have f1 := (cellB h.blk 1).2
  have c0 : w.cell? ⟨e.fp, 0, none⟩ = some e.v := by rw [(cellB h.blk 0).1]; rfl
  have hrow := h.row.2
  clear h
  generalize hN : leftN keep e = N at *
  have hE : (e.sure : Int) + min (max keep 0) ((e.data.length : Int) - (e.sure : Int)) = (N : Int) := by
    unfold leftN at hN; omega
  clear hN
  generalize e.data.length = n at *
  generalize e.sure = su at *
  generalize e.fp = fp at *
  have hw0 : IntKind.i64.wrap ((n : Int) - (su : Int)) = (n : Int) - (su : Int) := by rw [IntKind.wrap_i64] <;> omega
  have hw1 : IntKind.i64.wrap ((su : Int) + min (max keep 0) ((n : Int) - (su : Int))) = (N : Int) := by rw [hE, IntKind.wrap_i64] <;> omega
  have hw2 : IntKind.i64.wrap (N : Int) = (N : Int) := by rw [IntKind.wrap_i64] <;> omega
  have hN0 : (0 : Int) ≤ (N : Int) := by omega
  rcases hrow with ⟨e1, e2⟩ | ⟨g, cap, cur, e1, _, hc, h1, h2, h3, h4⟩
  · rw [e1] at c0 ⊢
    subst e2
    have h5 : su = 0 := by omega
    subst h5
    have h6 : N = 0 := by omega
    subst h6
    have hz : min (max keep 0) (0 : Int) = 0 := by omega
    go_enter Tryz.func36, Tryz.ntmps36
    go_wp2
    go_region
    all_goals go_wp2
    all_goals go_region
    all_goals go_wp2
    all_goals go_end0
    all_goals exact ⟨rfl, rfl, rfl, rfl, rfl⟩
  · rw [e1] at c0 ⊢
    have hNc : (N : Int) ≤ (cap : Int) := by omega
    clear hc h3 h4
    go_enter Tryz.func36, Tryz.ntmps36
    go_wp2
    go_region
    all_goals go_wp2
    all_goals go_region
    all_goals go_wp2
    all_goals go_end0
    all_goals exact ⟨rfl, rfl, rfl, rfl, rfl⟩
end Go.Proofs.YthphadbcebeoaaaGreatDoor.Dk
