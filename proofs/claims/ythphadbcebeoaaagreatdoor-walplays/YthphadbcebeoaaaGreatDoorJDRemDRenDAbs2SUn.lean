/- Remove. -/
import Derived.Test.YthphadbcebeoaaaGreatDoorJDCrashDTrunc
import Derived.Test.YthphadbcebeoaaaGreatDoorJDReadDAbs
import Derived.Test.YthphadbcebeoaaaGreatDoorJHandLawFramesSPackHandL
import Derived.Laws.ResultCell
namespace Go.Proofs.YthphadbcebeoaaaGreatDoor.Dk
open Go.RowKit Go.Lib Go.Maps Go.WideMaps

theorem dk_del {w w' : World} {p b n : Nat} {S : St} {L : List Ent} {O : Nat → Prop} (h : DK w p S (some b) L O) (nm : List UInt8) (hown : w'.ownsMap Tryz.prog 9 RP b n ((DL L).del (.string nm))) (ht : w.mapTurned w' b) : DK w' p S (some b) (delE nm L) O := by
  rw [del_DL] at hown
  refine ⟨?_, fun hh => (by cases hh), fun b' hb' => ?_, fun x hx => file_kept (h.files x (mem_delE.1 hx).1) ht, h.apart.filter _, Nat.le_trans (List.length_filter_le _ _) h.few, h.oP, h.oM, fun x hx => h.oF x (mem_delE.1 hx).1, fun x hx => h.oR x (mem_delE.1 hx).1⟩
  · obtain ⟨es, clock, es', clock', hb, rfl⟩ := ht
    rw [ChangeMaps.heap_setBlock_other hb _ (by rintro rfl; have := h.disk; rw [hb] at this; cases this)]
    exact h.disk
  · cases hb'
    exact ownsMap_tight hown

/-- What Remove leaves. -/
def RemPost (w : World) (p : Nat) (S : St) (mb : Option Nat) (L : List Ent) (O : Nat → Prop) (n : List UInt8) (e : Ending) (w' : World) : Prop :=
  ∃ v L', e = .returned v ∧ ErrOut (Old w) w' v (beginS S (thereC L n)).2 ∧ DK w' p (beginS S (thereC L n)).1 mb L' O ∧ FrO O w w' ∧
    ((beginS S (thereC L n)).2 ≠ 0 → L' = L) ∧ ((beginS S (thereC L n)).2 = 0 → L' = delE n L)

set_option maxHeartbeats 3200000 in
set_option maxRecDepth 100000 in
theorem remove_any {w : World} {p : Nat} {S : St} {mb : Option Nat} {L : List Ent} {O : Nat → Prop} (s : ByteArray) (h : DK w p S mb L O) (hO : ∀ k, O k → k < w.heap.size) (hE : ET w) (hs : s.size ≤ maxLen)
    (hc : 0 ≤ S.count ∧ S.count < 1000000000) (hl : S.halting = true → 0 ≤ S.left ∧ S.left < 9223372036854775808) :
    Calls Tryz.prog 54 #[.pointer (some ⟨p, 0, none⟩), .string s] w (RemPost w p S mb L O s.data.toList) := by
  have HF := hide (find_any s h hs)
  have hkey := keyOf_string_mk (P := Tryz.prog) (k := 9) Tryz.underlying9 hs
  unfold FindRes at HF
  unfold RemPost thereC
  cases hlk : look L s.data.toList with
  | none =>
    rw [hlk] at HF
    have HB := hide (begin_any s (evC 30) 30 h hO (Old w) (fun _ hh => hh) hE (.inr ⟨by decide, .inl rfl⟩) (fun b hb => by cases hb) hc hl)
    have hbs := beginS_ne (S := S) (c := 30) (by decide)
    have HX : Hid (∀ w' v', ErrOut (Old w) w' v' (beginS S 30).2 → ∃ b, v' = evW b) := fun w' v' h1 => by
      rcases h1 with ⟨_, h2⟩ | ⟨_, b, hb, _⟩
      · exact absurd h2 hbs.1
      · exact ⟨b, hb⟩
    clear h
    go_enter Tryz.func54, Tryz.ntmps54
    go_wp2_with (first
      | (go_at_call 44; refine (unhide HF).mono ?_; rintro e0 w0 ⟨rfl, rfl⟩)
      | (go_at_call 47; refine (unhide HB).mono ?_; rintro e0 w1 ⟨v1, rfl, he1, hd1, hf1⟩; obtain ⟨b1, rfl⟩ := unhide HX _ _ he1))
    go_ret
    exact ⟨_, L, rfl, he1, hd1, hf1, fun _ => rfl, fun hh => absurd hh hbs.1⟩
  | some e =>
    rw [hlk] at HF
    obtain ⟨hem, hen⟩ := look_mem hlk
    have HB := hide (begin_any s .nilIface 0 h hO (Old w) (fun _ hh => hh) hE (.inl ⟨rfl, rfl⟩) (fun b hb => by cases hb) hc hl)
    by_cases hno : (beginS S 0).2 = 0
    · have HX : Hid (∀ w' v', ErrOut (Old w) w' v' (beginS S 0).2 → v' = .nilIface) := fun w' v' h1 => by
        rcases h1 with ⟨hh, _⟩ | ⟨h2, _⟩
        · exact hh
        · exact absurd hno h2
      obtain ⟨b, rfl⟩ : ∃ b, mb = some b := by
        cases mb with
        | none => rw [h.none rfl] at hem; cases hem
        | some b => exact ⟨b, rfl⟩
      have HP : Hid (∀ w1, FrO O w w1 → DK w1 p (beginS S 0).1 (some b) L O → w1.cell? ⟨p, 1, none⟩ = some (.map (some b)) ∧ w1.ownsMap Tryz.prog 9 RP b L.length (DL L) ∧
          ∀ w2, w2.ownsMap Tryz.prog 9 RP b L.length ((DL L).del (.string s.data.toList)) → w1.mapTurned w2 b → DK w2 p (beginS S 0).1 (some b) (delE s.data.toList L) O ∧ FrO O w1 w2) := by
        intro w1 hf1 hd1
        exact ⟨hd1.cells.2.1, hd1.some b rfl, fun w2 ho ht => ⟨dk_del hd1 _ ho ht, FrO.turned ht (hd1.oM b rfl)⟩⟩
      clear h
      go_enter Tryz.func54, Tryz.ntmps54
      go_wp2_with (first
        | (go_at_call 44; refine (unhide HF).mono ?_; rintro e0 w0 ⟨rfl, rfl⟩)
        | (go_at_call 47; refine (unhide HB).mono ?_; rintro e0 w1 ⟨v1, rfl, he1, hd1, hf1⟩; have e1 := unhide HX _ _ he1; subst e1; obtain ⟨c1, m1, p1⟩ := unhide HP _ hf1 hd1; have P1 := hide p1; clear p1)
        | (at_delete; refine wpList_delete_own _ rfl _ _ 71 9 rfl 90 Tryz.law Tryz.underlying71 _ b L.length (DL L) rfl m1 _ _ rfl hkey ?_; intro w2 ho2 ht2; obtain ⟨d2, g2⟩ := unhide P1 w2 ho2 ht2))
      go_ret
      exact ⟨_, _, rfl, .inl ⟨rfl, hno⟩, d2, FrO.trans hf1 g2 (fun _ _ hh => hh), fun hh => absurd hno hh, fun _ => rfl⟩
    · have HX : Hid (∀ w' v', ErrOut (Old w) w' v' (beginS S 0).2 → ∃ b, v' = evW b) := fun w' v' h1 => by
        rcases h1 with ⟨_, h2⟩ | ⟨_, b, hb, _⟩
        · exact absurd h2 hno
        · exact ⟨b, hb⟩
      clear h
      go_enter Tryz.func54, Tryz.ntmps54
      go_wp2_with (first
        | (go_at_call 44; refine (unhide HF).mono ?_; rintro e0 w0 ⟨rfl, rfl⟩)
        | (go_at_call 47; refine (unhide HB).mono ?_; rintro e0 w1 ⟨v1, rfl, he1, hd1, hf1⟩; obtain ⟨b1, rfl⟩ := unhide HX _ _ he1))
      go_ret
      exact ⟨_, L, rfl, he1, hd1, hf1, fun _ => rfl, fun hh => absurd hh hno⟩
end Go.Proofs.YthphadbcebeoaaaGreatDoor.Dk
/- Rename. -/
namespace Go.Proofs.YthphadbcebeoaaaGreatDoor.Dk
open Go.RowKit Go.Lib Go.Maps Go.WideMaps

/-- Why a Rename is refused, if it is. -/
def renC (L : List Ent) (a b : List UInt8) : Int := if okN b = true then thereC L a else 20
def nameE (e : Ent) (n : List UInt8) : Ent := { e with name := n }
theorem length_delE_lt {L : List Ent} {e : Ent} {n : List UInt8} (h : look L n = some e) : (delE n L).length < L.length := by
  obtain ⟨h1, h2⟩ := look_mem h
  unfold delE
  refine Nat.lt_of_le_of_ne (List.length_filter_le _ _) fun hh => ?_
  have := (List.length_filter_eq_length_iff.1 hh) e h1
  simp [h2] at this
theorem length_putE_le (e : Ent) (L : List Ent) : (putE e L).length ≤ L.length + 1 := by
  unfold putE
  rw [length_insE]
  have := List.length_filter_le (fun x : Ent => !(x.name == e.name)) L
  unfold delE
  omega

/-- What Rename leaves. -/
def RenPost (w : World) (p : Nat) (S : St) (L : List Ent) (O : Nat → Prop) (a b : List UInt8) (e : Ending) (w' : World) : Prop :=
  ∃ v mb' L', e = .returned v ∧ ErrOut (Old w) w' v (beginS S (renC L a b)).2 ∧ DK w' p (beginS S (renC L a b)).1 mb' L' (From O w.heap.size w') ∧ FrO O w w' ∧
    ((beginS S (renC L a b)).2 ≠ 0 → L' = L) ∧ ((beginS S (renC L a b)).2 = 0 → ∃ e', look L a = some e' ∧ L' = putE (nameE e' b) (delE a L))

theorem From.mono0 {O : Nat → Prop} {n : Nat} {w : World} {k : Nat} (h : O k) : From O n w k := .inl h

set_option maxHeartbeats 6400000 in
set_option maxRecDepth 100000 in
theorem rename_bad {w : World} {p : Nat} {S : St} {mb : Option Nat} {L : List Ent} {O : Nat → Prop} (s t : ByteArray) (h : DK w p S mb L O) (hO : ∀ k, O k → k < w.heap.size) (hE : ET w) (hs : s.size ≤ maxLen) (ht : t.size ≤ maxLen)
    (hc : 0 ≤ S.count ∧ S.count < 1000000000) (hl : S.halting = true → 0 ≤ S.left ∧ S.left < 9223372036854775808) (hn : okN t.data.toList = false) :
    Calls Tryz.prog 102 #[.pointer (some ⟨p, 0, none⟩), .string s, .string t] w (RenPost w p S L O s.data.toList t.data.toList) := by
  have HF := hide (find_any s h hs)
  have HN := hide (nameMayBe_any t w ht)
  rw [hn] at HN
  unfold RenPost renC
  rw [hn]
  simp only [Bool.false_eq_true, if_false]
  obtain ⟨fv, fe, hfr⟩ : ∃ fv fe, FindRes L s.data.toList = .tuple #[fv, fe] := by
    unfold FindRes
    cases look L s.data.toList with
    | none => exact ⟨_, _, rfl⟩
    | some e => exact ⟨_, _, rfl⟩
  rw [hfr] at HF
  have HW := hide (within_class t 20 w hE)
  have hbs := beginS_ne (S := S) (c := 20) (by decide)
  have HB : Hid (∀ w1 b, w.heap.size ≤ b → ErrW w1 b 20 → Below w.heap.size w w1 → Calls Tryz.prog 47 #[.pointer (some ⟨p, 0, none⟩), .string s, evW b] w1 fun e w' => ∃ b', e = .returned (evW b') ∧ ErrOut (Old w) w' (evW b') (beginS S 20).2 ∧ DK w' p (beginS S 20).1 mb L O ∧ FrO O w w') := by
    intro w1 b hb he hbl
    refine (begin_any (w := w1) s (evW b) 20 (h.below hO hbl) (fun k hk => Nat.lt_of_lt_of_le (hO k hk) hbl.size) (Old w) (fun _ hk => Nat.lt_of_lt_of_le hk hbl.size) (hE.below hbl hE.lt) (.inr ⟨by decide, .inr ⟨b, rfl, he⟩⟩) (fun b' hb' hh => by cases hb'; exact absurd hh (by unfold Old; omega)) hc hl).mono ?_
    rintro e w' ⟨v', rfl, he', hd', hf'⟩
    rcases he' with ⟨_, h2⟩ | ⟨hne, b', rfl, r⟩
    · exact absurd h2 hbs.1
    · exact ⟨b', rfl, .inr ⟨hne, b', rfl, r⟩, hd', FrO.trans (FrO.of_below (O := O) hbl) hf' (fun _ _ hh => hh)⟩
  clear h hE
  go_enter Tryz.func102, Tryz.ntmps102
  go_wp2_with (first
    | (go_at_call 44; refine (unhide HF).mono ?_; rintro e0 w0 ⟨rfl, rfl⟩)
    | (go_at_call 70; refine (unhide HN).mono ?_; rintro e0 w0 ⟨rfl, rfl⟩)
    | (go_at_call 49; refine (unhide HW).mono ?_; rintro e0 w1 ⟨b1, rfl, hb1, he1, hf1⟩; have P1 := hide (unhide HB w1 b1 hb1 he1 hf1))
    | (go_at_call 47; refine (unhide P1).mono ?_; rintro e0 w2 ⟨b2, rfl, he2, hd2, hf2⟩))
  go_ret
  exact ⟨_, mb, L, rfl, he2, hd2.mono (fun k hk => .inl hk), hf2, fun _ => rfl, fun hh => absurd hh hbs.1⟩

set_option maxHeartbeats 6400000 in
set_option maxRecDepth 100000 in
theorem rename_no {w : World} {p : Nat} {S : St} {mb : Option Nat} {L : List Ent} {O : Nat → Prop} (s t : ByteArray) (h : DK w p S mb L O) (hO : ∀ k, O k → k < w.heap.size) (hE : ET w) (hs : s.size ≤ maxLen) (ht : t.size ≤ maxLen)
    (hc : 0 ≤ S.count ∧ S.count < 1000000000) (hl : S.halting = true → 0 ≤ S.left ∧ S.left < 9223372036854775808) (hn : okN t.data.toList = true) (hno : (beginS S (thereC L s.data.toList)).2 ≠ 0) :
    Calls Tryz.prog 102 #[.pointer (some ⟨p, 0, none⟩), .string s, .string t] w (RenPost w p S L O s.data.toList t.data.toList) := by
  have HF := hide (find_any s h hs)
  have HN := hide (nameMayBe_any t w ht)
  rw [hn] at HN
  unfold RenPost renC
  rw [hn]
  simp only [if_true]
  obtain ⟨fv, fe, hfr, hfe⟩ : ∃ fv fe, FindRes L s.data.toList = .tuple #[fv, fe] ∧ ErrIn w fe (thereC L s.data.toList) ∧ (∀ b, fe ≠ evW b) := by
    unfold FindRes thereC
    cases look L s.data.toList with
    | none => exact ⟨_, _, rfl, .inr ⟨by decide, .inl rfl⟩, fun b hb => by cases hb⟩
    | some e => exact ⟨_, _, rfl, .inl ⟨rfl, rfl⟩, fun b hb => by cases hb⟩
  rw [hfr] at HF
  have HB : Hid (Calls Tryz.prog 47 #[.pointer (some ⟨p, 0, none⟩), .string s, fe] w fun e w' => ∃ b', e = .returned (evW b') ∧ ErrOut (Old w) w' (evW b') (beginS S (thereC L s.data.toList)).2 ∧ DK w' p (beginS S (thereC L s.data.toList)).1 mb L O ∧ FrO O w w') := by
    refine (begin_any s fe (thereC L s.data.toList) h hO (Old w) (fun _ hh => hh) hE hfe.1 (fun b' hb' => absurd hb' (hfe.2 b')) hc hl).mono ?_
    rintro e w' ⟨v', rfl, he', hd', hf'⟩
    rcases he' with ⟨_, h2⟩ | ⟨hne, b', rfl, r⟩
    · exact absurd h2 hno
    · exact ⟨b', rfl, .inr ⟨hne, b', rfl, r⟩, hd', hf'⟩
  clear h hE hfe
  go_enter Tryz.func102, Tryz.ntmps102
  go_wp2_with (first
    | (go_at_call 44; refine (unhide HF).mono ?_; rintro e0 w0 ⟨rfl, rfl⟩)
    | (go_at_call 70; refine (unhide HN).mono ?_; rintro e0 w0 ⟨rfl, rfl⟩)
    | (go_at_call 47; refine (unhide HB).mono ?_; rintro e0 w2 ⟨b2, rfl, he2, hd2, hf2⟩))
  go_ret
  exact ⟨_, mb, L, rfl, he2, hd2.mono (fun k hk => .inl hk), hf2, fun _ => rfl, fun hh => absurd hh hno⟩

set_option maxHeartbeats 6400000 in
set_option maxRecDepth 100000 in
theorem rename_ok {w : World} {p : Nat} {S : St} {mb : Option Nat} {L : List Ent} {O : Nat → Prop} (s t : ByteArray) (h : DK w p S mb L O) (hO : ∀ k, O k → k < w.heap.size) (hE : ET w) (hs : s.size ≤ maxLen) (ht : t.size ≤ 1000)
    (hc : 0 ≤ S.count ∧ S.count < 1000000000) (hl : S.halting = true → 0 ≤ S.left ∧ S.left < 9223372036854775808) (hn : okN t.data.toList = true) (e : Ent) (hlk : look L s.data.toList = some e) (hno : (beginS S 0).2 = 0) :
    Calls Tryz.prog 102 #[.pointer (some ⟨p, 0, none⟩), .string s, .string t] w (RenPost w p S L O s.data.toList t.data.toList) := by
  have HF := hide (find_any s h hs)
  have hkey := keyOf_string_mk (P := Tryz.prog) (k := 9) Tryz.underlying9 hs
  have HN := hide (nameMayBe_any t w (by unfold maxLen; omega))
  rw [hn] at HN
  have hth : thereC L s.data.toList = 0 := by unfold thereC; rw [hlk]
  unfold RenPost renC
  rw [hn]
  simp only [if_true, hth]
  have hfr : FindRes L s.data.toList = .tuple #[.pointer (some ⟨e.fp, 0, none⟩), .nilIface] := by unfold FindRes; rw [hlk]
  rw [hfr] at HF
  obtain ⟨hem, hen⟩ := look_mem hlk
  obtain ⟨b, rfl⟩ : ∃ b, mb = some b := by
    cases mb with
    | none => rw [h.none rfl] at hem; cases hem
    | some b => exact ⟨b, rfl⟩
  have HB := hide (begin_any s .nilIface 0 h hO (Old w) (fun _ hh => hh) hE (.inl ⟨rfl, rfl⟩) (fun b hb => by cases hb) hc hl)
  have HX : Hid (∀ w' v', ErrOut (Old w) w' v' (beginS S 0).2 → v' = .nilIface) := fun w' v' h1 => by
    rcases h1 with ⟨hh, _⟩ | ⟨h2, _⟩
    · exact hh
    · exact absurd hno h2
  have HP : Hid (∀ w1, FrO O w w1 → DK w1 p (beginS S 0).1 (some b) L O → w1.cell? ⟨p, 1, none⟩ = some (.map (some b)) ∧ w1.ownsMap Tryz.prog 9 RP b L.length (DL L) ∧
      ∀ w2, w2.ownsMap Tryz.prog 9 RP b L.length ((DL L).del (.string s.data.toList)) → w1.mapTurned w2 b →
        Calls Tryz.prog 48 #[.pointer (some ⟨p, 0, none⟩), .string t, .pointer (some ⟨e.fp, 0, none⟩)] w2 fun ev w' => ev = .returned (.tuple #[]) ∧ ∃ mb', DK w' p (beginS S 0).1 mb' (putE (nameE e t.data.toList) (delE s.data.toList L)) (From O w.heap.size w') ∧ FrO O w w') := by
    intro w1 hf1 hd1
    refine ⟨hd1.cells.2.1, hd1.some b rfl, fun w2 ho ht2 => ?_⟩
    have hd2 := dk_del hd1 _ ho ht2
    have hf2 : FrO O w1 w2 := FrO.turned ht2 (hd1.oM b rfl)
    have hfile : FileAt w2 e := file_kept (hd1.files e hem) ht2
    have hz := turned_size ht2
    have hz1 := hf1.size
    refine (put_any t (nameE e t.data.toList) rfl hd2 (fun k hk => by have := hO k hk; omega) ht (show FileAt w2 (nameE e t.data.toList) from ⟨hfile.blk, hfile.row, hfile.sure, hfile.len⟩) (fun x hx _ => ?_) (hd1.oF e hem) (hd1.oR e hem) ?_).mono ?_
    · obtain ⟨hx1, hx2⟩ := mem_delE.1 hx
      have hne : x.name ≠ e.name := by rw [hen]; exact hx2
      have h1 : Apart x e := apart_of hd1.apart hx1 hem hne
      have h2 : Apart e x := apart_of hd1.apart hem hx1 (fun hh => hne hh.symm)
      exact ⟨h1, h2⟩
    · have h1 := length_putE_le (nameE e t.data.toList) (delE s.data.toList L)
      have h2 := length_delE_lt hlk
      have := hd1.few
      omega
    · rintro ev w' ⟨rfl, mb', hd', hf'⟩
      have hz2 := hf'.size
      refine ⟨rfl, mb', hd'.mono (fun k hk => ?_), FrO.trans hf1 (FrO.trans hf2 hf' (fun _ _ hh => hh)) (fun _ _ hh => hh)⟩
      rcases hk with hk | hk
      · exact .inl hk
      · exact .inr ⟨by omega, hk.2⟩
  clear h hE
  go_enter Tryz.func102, Tryz.ntmps102
  go_wp2_with (first
    | (go_at_call 44; refine (unhide HF).mono ?_; rintro e0 w0 ⟨rfl, rfl⟩)
    | (go_at_call 70; refine (unhide HN).mono ?_; rintro e0 w0 ⟨rfl, rfl⟩)
    | (go_at_call 47; refine (unhide HB).mono ?_; rintro e0 w1 ⟨v1, rfl, he1, hd1, hf1⟩; have e1 := unhide HX _ _ he1; subst e1; obtain ⟨c1, m1, p1⟩ := unhide HP _ hf1 hd1; have P1 := hide p1; clear p1)
    | (at_delete; refine wpList_delete_own _ rfl _ _ 71 9 rfl 90 Tryz.law Tryz.underlying71 _ b L.length (DL L) rfl m1 _ _ rfl hkey ?_; intro w2 ho2 ht2; have P2 := hide (unhide P1 w2 ho2 ht2))
    | (go_at_call 48; refine (unhide P2).mono ?_; rintro e0 w3 ⟨rfl, mb3, hd3, hf3⟩))
  go_ret
  exact ⟨_, mb3, _, rfl, .inl ⟨rfl, hno⟩, hd3, hf3, fun hh => absurd hno hh, fun _ => ⟨e, hlk, rfl⟩⟩

/-- Rename, whatever the names, the state. -/
theorem rename_any {w : World} {p : Nat} {S : St} {mb : Option Nat} {L : List Ent} {O : Nat → Prop} (s t : ByteArray) (h : DK w p S mb L O) (hO : ∀ k, O k → k < w.heap.size) (hE : ET w) (hs : s.size ≤ 1000) (ht : t.size ≤ 1000)
    (hc : 0 ≤ S.count ∧ S.count < 1000000000) (hl : S.halting = true → 0 ≤ S.left ∧ S.left < 9223372036854775808) :
    Calls Tryz.prog 102 #[.pointer (some ⟨p, 0, none⟩), .string s, .string t] w (RenPost w p S L O s.data.toList t.data.toList) := by
  have hsm : s.size ≤ maxLen := by unfold maxLen; omega
  have htm : t.size ≤ maxLen := by unfold maxLen; omega
  cases hn : okN t.data.toList with
  | false => exact rename_bad s t h hO hE hsm htm hc hl hn
  | true =>
    by_cases hno : (beginS S (thereC L s.data.toList)).2 = 0
    · cases hlk : look L s.data.toList with
      | none =>
        have hth : thereC L s.data.toList = 30 := by unfold thereC; rw [hlk]
        rw [hth] at hno
        exact absurd hno (beginS_ne (by decide)).1
      | some e =>
        have hth : thereC L s.data.toList = 0 := by unfold thereC; rw [hlk]
        rw [hth] at hno
        exact rename_ok s t h hO hE hsm ht hc hl hn e hlk hno
    · exact rename_no s t h hO hE hsm htm hc hl hn hno
end Go.Proofs.YthphadbcebeoaaaGreatDoor.Dk
/- Truncate, Remove, Rename in terms of names, bytes, how many are sure. -/
namespace Go.Proofs.YthphadbcebeoaaaGreatDoor.Dk
open Go.RowKit Go.Lib Go.Maps Go.WideMaps

theorem truncC_er (L : List Ent) (n : List UInt8) (m : Int) : truncC (L.map er) n m = truncC L n m := by
  unfold truncC
  rw [look_er]
  cases look L n <;> rfl
theorem renC_er (L : List Ent) (a b : List UInt8) : renC (L.map er) a b = renC L a b := by unfold renC; rw [thereC_er]

theorem dx_trunc {w : World} {p : Nat} {S : St} {F : List Ent} {O : Nat → Prop} (s : ByteArray) (n : Int) (h : DX w p S F O) (hE : ET w) (hs : s.size ≤ maxLen) (hn : -9223372036854775808 ≤ n ∧ n ≤ 9223372036854775807) (hc : 0 ≤ S.count ∧ S.count < 1000000000) (hl : S.halting = true → 0 ≤ S.left ∧ S.left < 9223372036854775808) :
    Calls Tryz.prog 56 #[.pointer (some ⟨p, 0, none⟩), .string s, .int .i64 n] w fun e w' => ∃ v', e = .returned v' ∧ ErrOut (Old w) w' v' (beginS S (truncC F s.data.toList n)).2 ∧
      DX w' p (beginS S (truncC F s.data.toList n)).1 (if (beginS S (truncC F s.data.toList n)).2 = 0 then repl (fl s.data.toList ((oldData F s.data.toList).take n.toNat) (min (oldSure F s.data.toList) n.toNat)) F else F) O ∧ FrO O w w' := by
  obtain ⟨mb, L, hd, hO, rfl⟩ := h
  rw [truncC_er, oldData_er, oldSure_er]
  refine (trunc_any s n hd hO hE hs hn hc hl).mono ?_
  rintro e w' ⟨v', L', rfl, he, hd', hf, h1, h2⟩
  refine ⟨v', rfl, he, ⟨mb, L', hd', fun k hk => Nat.lt_of_lt_of_le (hO k hk) hf.size, ?_⟩, hf⟩
  by_cases h0 : (beginS S (truncC L s.data.toList n)).2 = 0
  · rw [if_pos h0]
    obtain ⟨e', hlk, rfl⟩ := h2 h0
    rw [repl_er]
    unfold oldData oldSure
    rw [hlk]
    have := (look_mem hlk).2
    unfold er cutE
    rw [← this]
  · rw [if_neg h0, h1 h0]
theorem dx_remove {w : World} {p : Nat} {S : St} {F : List Ent} {O : Nat → Prop} (s : ByteArray) (h : DX w p S F O) (hE : ET w) (hs : s.size ≤ maxLen) (hc : 0 ≤ S.count ∧ S.count < 1000000000) (hl : S.halting = true → 0 ≤ S.left ∧ S.left < 9223372036854775808) :
    Calls Tryz.prog 54 #[.pointer (some ⟨p, 0, none⟩), .string s] w fun e w' => ∃ v', e = .returned v' ∧ ErrOut (Old w) w' v' (beginS S (thereC F s.data.toList)).2 ∧
      DX w' p (beginS S (thereC F s.data.toList)).1 (if (beginS S (thereC F s.data.toList)).2 = 0 then delE s.data.toList F else F) O ∧ FrO O w w' := by
  obtain ⟨mb, L, hd, hO, rfl⟩ := h
  rw [thereC_er]
  refine (remove_any s hd hO hE hs hc hl).mono ?_
  rintro e w' ⟨v', L', rfl, he, hd', hf, h1, h2⟩
  refine ⟨v', rfl, he, ⟨mb, L', hd', fun k hk => Nat.lt_of_lt_of_le (hO k hk) hf.size, ?_⟩, hf⟩
  by_cases h0 : (beginS S (thereC L s.data.toList)).2 = 0
  · rw [if_pos h0, h2 h0, delE_er]
  · rw [if_neg h0, h1 h0]
theorem dx_rename {w : World} {p : Nat} {S : St} {F : List Ent} {O : Nat → Prop} (s t : ByteArray) (h : DX w p S F O) (hE : ET w) (hs : s.size ≤ 1000) (ht : t.size ≤ 1000) (hc : 0 ≤ S.count ∧ S.count < 1000000000) (hl : S.halting = true → 0 ≤ S.left ∧ S.left < 9223372036854775808) :
    Calls Tryz.prog 102 #[.pointer (some ⟨p, 0, none⟩), .string s, .string t] w fun e w' => ∃ v' O', e = .returned v' ∧ ErrOut (Old w) w' v' (beginS S (renC F s.data.toList t.data.toList)).2 ∧
      DX w' p (beginS S (renC F s.data.toList t.data.toList)).1 (if (beginS S (renC F s.data.toList t.data.toList)).2 = 0 then putE (fl t.data.toList (oldData F s.data.toList) (oldSure F s.data.toList)) (delE s.data.toList F) else F) O' ∧ FrO O w w' ∧ (∀ k, O' k → O k ∨ w.heap.size ≤ k) := by
  obtain ⟨mb, L, hd, hO, rfl⟩ := h
  rw [renC_er, oldData_er, oldSure_er]
  refine (rename_any s t hd hO hE hs ht hc hl).mono ?_
  rintro e w' ⟨v', mb', L', rfl, he, hd', hf, h1, h2⟩
  refine ⟨v', _, rfl, he, ⟨mb', L', hd', fun k hk => ?_, ?_⟩, hf, fun k hk => hk.elim .inl (fun hh => .inr hh.1)⟩
  · have := hf.size
    rcases hk with hk | hk
    · have := hO k hk; omega
    · exact hk.2
  · by_cases h0 : (beginS S (renC L s.data.toList t.data.toList)).2 = 0
    · rw [if_pos h0]
      obtain ⟨e', hlk, rfl⟩ := h2 h0
      rw [putE_er, delE_er]
      unfold oldData oldSure
      rw [hlk]
      rfl
    · rw [if_neg h0, h1 h0]
end Go.Proofs.YthphadbcebeoaaaGreatDoor.Dk
/- What package snap reads of a snapshot's bytes: unpack. -/
namespace Go.Proofs.YthphadbcebeoaaaGreatDoor
open Go.RowKit Go.Lib

set_option maxHeartbeats 1600000 in
set_option maxRecDepth 100000 in
theorem clone_new (a : Addr) (n cap : Nat) (l : List UInt8) (w : World) (hl : l.length ≤ 1000000000) (hv : RBp w w.heap.size (.slice (some a) n cap) l) :
    Calls Tryz.prog 50 #[.slice (some a) n cap] w fun e w' => ∃ v', e = .returned v' ∧ w'.ownsRow w.heap.size 5 1 v' l.length (byteCells l) ∧ Below w.heap.size w w' := by
  have hb0 := below_alloc (B := w.heap.size) (.cells #[] 5) (Nat.le_refl w.heap.size)
  have HO := hide (own_empty w)
  have HV := hide (hv.below hb0 (Nat.le_refl _))
  have HB0 := hide hb0
  have hnil := run_eql_slice_some_nil (P := Tryz.prog) w a n cap Tryz.underlying22
  clear hv hb0
  go_enter Tryz.func50, Tryz.ntmps50
  go_wp2_with (first
    | (at_builtin; refine wpList_append_rb rfl (.tmp 5) (.tmp 6) rfl w.heap.size _ 0 [] rfl (unhide HO) _ _ l rfl (unhide HV) (by omega) hl (by simp) ?_; intro v3 w3 ho3 _ hb3; have HO3 := hide ho3; clear ho3))
  go_ret
  exact ⟨_, rfl, own_cast2 (unhide HO3) (by omega) rfl, (unhide HB0).trans hb3⟩

set_option maxHeartbeats 3200000 in
set_option maxRecDepth 100000 in
theorem unframe_fine2 (b off cap len n : Nat) (w : World) (hl4 : 4 ≤ len) (hl : len ≤ 1000000000000) (hn : n < 4294967296)
    (HW : Hid (Calls Tryz.prog 91 #[.slice (some ⟨b, off, none⟩) len cap] w fun e w' => e = .returned (.int .u32 (n : Int)) ∧ ∃ m, w' = w.drewN m)) (en e8 : Nat) (hen : en = 4 + n) (he8 : e8 = en + 4) (hg : n ≤ 262144)
    (hcap : len ≤ cap) (_hm : cap ≤ 9223372036854775807) (hc : e8 ≤ len) (c1 c2 : Nat) (HS : Hid (∀ W, Below w.heap.size w W → Calls Tryz.prog 92 #[.slice (some ⟨b, off, none⟩) en cap] W fun e w' => e = .returned (.int .u32 (c1 : Int)) ∧ w' = W))
    (HW2 : Hid (∀ W, Below w.heap.size w W → Calls Tryz.prog 91 #[.slice (some ⟨b, off + en, none⟩) (len - en) (cap - en)] W fun e w' => e = .returned (.int .u32 (c2 : Int)) ∧ ∃ m, w' = W.drewN m)) (hx : c1 = c2) (lm : List UInt8)
    (HC : Hid (∀ W, Below w.heap.size w W → Calls Tryz.prog 50 #[.slice (some ⟨b, off + 4, none⟩) (en - 4) (cap - 4)] W fun e w' => ∃ v', e = .returned v' ∧ w'.ownsRow W.heap.size 5 1 v' lm.length (byteCells lm) ∧ Below W.heap.size W w')) :
    Calls Tryz.prog 73 #[.slice (some ⟨b, off, none⟩) len cap] w fun e w' => ∃ p, e = .returned (.tuple #[p, .int .i64 (e8 : Int), .nilIface]) ∧ w'.ownsRow w.heap.size 5 1 p lm.length (byteCells lm) ∧ Below w.heap.size w w' := by
  have hl' : ¬ ((len : Int) < 4) := by omega
  have hg' : ¬ ((262144 : Int) < (n : Int)) := by omega
  have hA : (4 : Int) + (n : Int) = (en : Int) := by omega
  have hA8 : (en : Int) + 4 = (e8 : Int) := by omega
  have hc' : ¬ ((len : Int) < (e8 : Int)) := by omega
  have hb8 : e8 ≤ 1000000 := by omega
  have hben : en ≤ 1000000 := by omega
  have hlen : en ≤ len := by omega
  have hce : cap ≠ en := by omega
  have hce4 : cap ≠ 4 := by omega
  have h4n : 4 ≤ en := by omega
  have hcen : en ≤ cap := by omega
  subst hx
  clear hen he8
  go_enter Tryz.func73, Tryz.ntmps73
  go_wp2_with (first | (go_at_call 91; refine (unhide HW).mono ?_; rintro e w1 ⟨rfl, m1, hw1⟩; have hb1 : Below w.heap.size w w1 := (by rw [hw1]; exact drew_below w m1); clear HW hw1))
  go_quiet (first
    | (go_at_call 92; refine Calls.quiet_of_same (unhide HS _ (bt hb1 (drew_below w1 _))))
    | (go_at_call 91; refine Calls.quiet_of (unhide HW2 _ (bt hb1 (drew_below w1 _)))))
  go_wp2_with (first | (go_at_call 50; refine (unhide HC _ (bt hb1 (drew_below w1 _))).mono ?_; rintro e w3 ⟨v3, rfl, hv3, hb3⟩))
  go_ret3
  exact ⟨_, rfl, own_weaker (bt hb1 (drew_below w1 _)).size hv3, bt (bt hb1 (drew_below w1 _)) hb3⟩
theorem unframe_new (v : Value) (l lm : List UInt8) (k : Nat) (w : World) (hT : ST w) (hl3 : l.length ≤ 1000000) (hv : RBp w w.heap.size v l) (hu : unfr l = (lm, k, 0)) :
    Calls Tryz.prog 73 #[v] w fun e w' => ∃ p, e = .returned (.tuple #[p, .int .i64 (k : Int), .nilIface]) ∧ w'.ownsRow w.heap.size 5 1 p lm.length (byteCells lm) ∧ Below w.heap.size w w' := by
  have hrow := hv
  obtain ⟨ad, kk, rfl⟩ := rb_len hv
  by_cases h4 : l.length < 4
  · simp [unfr, h4] at hu
  obtain ⟨hlen, ⟨hn, hn2⟩ | ⟨b, off, cap, hbB, hcap, hm, hveq, hcell⟩⟩ := hv
  · rw [hn2] at h4; simp at h4
  injection hveq with e1 e2 e3
  subst e1 e3
  have hn := wdOf_lt l
  have HW := hide (word_is (cap := kk) hbB (Below.refl _ _) (by omega) hlen rfl hcell)
  by_cases hg : 262144 < wdOf l
  · simp [unfr, h4, hg] at hu
  by_cases hc : l.length < wdOf l + 8
  · simp [unfr, h4, hg, hc] at hu
  have HS : Hid (∀ W, Below w.heap.size w W → Calls Tryz.prog 92 #[.slice (some ⟨b, off, none⟩) (4 + wdOf l) kk] W fun e w' => e = .returned (.int .u32 ((crc (l.take (4 + wdOf l)) : Nat) : Int)) ∧ w' = W) :=
    hide fun W hW => sum_any _ _ _ W (rb_first (rb_later hrow hW (Nat.le_refl _)) (by omega)) (hT.later hW)
  have hd : (l.drop (4 + wdOf l)).length = l.length - (4 + wdOf l) := by simp
  have HW2 : Hid (∀ W, Below w.heap.size w W → Calls Tryz.prog 91 #[.slice (some ⟨b, off + (4 + wdOf l), none⟩) (l.length - (4 + wdOf l)) (kk - (4 + wdOf l))] W fun e w' => e = .returned (.int .u32 ((wdOf (l.drop (4 + wdOf l)) : Nat) : Int)) ∧ ∃ m, w' = W.drewN m) :=
    hide fun W hW => word_is hbB hW (by omega) (by omega) hd (fun i hi => by
      have := hcell (4 + wdOf l + i) (by rw [hd] at hi; omega)
      rw [Nat.add_assoc, this]
      simp [List.getD_eq_getElem?_getD, List.getElem?_drop])
  have em : wdOf l + 4 = 4 + wdOf l := by omega
  by_cases hx : crc (l.take (4 + wdOf l)) = wdOf (l.drop (4 + wdOf l))
  · have e : unfr l = ((l.drop 4).take (wdOf l), 4 + wdOf l + 4, 0) := by simp [unfr, h4, hg, hc, em, hx]
    rw [e] at hu
    simp only [Prod.mk.injEq] at hu
    obtain ⟨rfl, rfl, _⟩ := hu
    have hmid := rb_mid (a := 4) (n := wdOf l) hbB (by omega) hcap hm hlen hcell
    exact unframe_fine2 b off kk l.length (wdOf l) w (by omega) hlen hn HW _ _ rfl rfl (by omega) hcap hm (by omega) _ _ HS HW2 hx _ (hide fun W hW => clone_new _ _ _ _ W (by simp; omega) (rb_later hmid hW hW.size))
  · simp [unfr, h4, hg, hc, em, hx] at hu


/-- A row of bytes of its own, laid open. -/
theorem own_open {w : World} {B : Nat} {v : Value} {l : List UInt8} (h : w.ownsRow B 5 1 v l.length (byteCells l)) (hne : l ≠ []) :
    ∃ g cap, v = .slice (some ⟨g, 0, none⟩) l.length cap ∧ B ≤ g ∧ g < w.heap.size ∧ l.length ≤ cap ∧ cap ≤ maxLen ∧ ∀ i, i < l.length → w.cell? ⟨g, 0 + i, none⟩ = some (.int .u8 ((l.getD i 0).toNat : Int)) := by
  rcases h.2 with ⟨rfl, h0⟩ | ⟨g, cap, cur, rfl, hB, hc, h1, h2, h3, h4⟩
  · exact absurd (List.eq_nil_of_length_eq_zero h0) hne
  · refine ⟨g, cap, rfl, hB, (Array.getElem?_eq_some_iff.1 hc).1, h1, h2, fun i hi => ?_⟩
    rw [(Dk.cellB hc _).1, Nat.zero_add, ← Array.getElem?_toList]
    have e1 : (cur.toList.take (l.length * 1))[i]? = cur.toList[i]? := List.getElem?_take_of_lt (by omega)
    rw [← e1, h4]
    simp [byteCells, hi]
/-- A slice that reads as these bytes, in blocks from lo on. -/
def RBn (w : World) (lo : Nat) (v : Value) (l : List UInt8) : Prop :=
  l.length ≤ 1000000000 ∧ ((v = .slice none 0 0 ∧ l = []) ∨
    ∃ b off cap, b < w.heap.size ∧ lo ≤ b ∧ l.length ≤ cap ∧ cap ≤ maxLen ∧ v = .slice (some ⟨b, off, none⟩) l.length cap ∧ ∀ i, i < l.length → w.cell? ⟨b, off + i, none⟩ = some (.int .u8 ((l.getD i 0).toNat : Int)))
theorem RBn.rb {w : World} {lo : Nat} {v : Value} {l : List UInt8} (h : RBn w lo v l) : RBp w w.heap.size v l := by
  obtain ⟨h1, h2 | ⟨b, off, cap, hb, _, h3, h4, h5, h6⟩⟩ := h
  · exact ⟨by omega, .inl h2⟩
  · exact ⟨by omega, .inr ⟨b, off, cap, hb, h3, h4, h5, h6⟩⟩
theorem RBn.later {w w' : World} {lo : Nat} {v : Value} {l : List UInt8} (h : RBn w lo v l) (hb : Below w.heap.size w w') : RBn w' lo v l := by
  obtain ⟨h1, h2 | ⟨b, off, cap, hbl, h0, h3, h4, h5, h6⟩⟩ := h
  · exact ⟨h1, .inl h2⟩
  · exact ⟨h1, .inr ⟨b, off, cap, Nat.lt_of_lt_of_le hbl hb.size, h0, h3, h4, h5, fun i hi => (hb.cell (p := ⟨b, off + i, none⟩) hbl).trans (h6 i hi)⟩⟩

theorem unp_end {w3 W : World} {i t N li lt lo g q cap len : Nat} {l : List UInt8} (hg : g < w3.heap.size) (hz : w3.heap.size ≤ W.heap.size) (hs : W.heap[g]? = w3.heap[g]?) (hlo : lo ≤ g) (hN : N = li + lt + l.length) (hd : (snB i t l).drop (li + lt) = l) (hc : N = (snB i t l).length) (hlen : len = N - li - lt) (hl : l.length ≤ 262080)
    (hq : q = li + lt ∨ l.length = 0) (h1 : len ≤ cap) (h2 : cap ≤ maxLen) (hcell : ∀ j, j < N → w3.cell? ⟨g, 0 + j, none⟩ = some (.int .u8 (((snB i t l).getD j 0).toNat : Int))) : RBn W lo (.slice (some ⟨g, q, none⟩) len cap) l := by
  have hll : len = l.length := by omega
  subst hll
  refine ⟨by omega, .inr ⟨g, q, cap, by omega, hlo, h1, h2, rfl, fun j hj => ?_⟩⟩
  obtain rfl : q = li + lt := by omega
  have h3 := hcell (li + lt + j) (by omega)
  rw [Nat.zero_add] at h3
  rw [World.cell?_of_block (w := w3) hs, h3]
  have h4 : (snB i t l).getD (li + lt + j) 0 = ((snB i t l).drop (li + lt)).getD j 0 := by simp [List.getD_eq_getElem?_getD, List.getElem?_drop]
  rw [h4, hd]
theorem set3_block (w : World) (p g : Nat) (a b c : Value) (h : g ≠ p) : (((w.setCell ⟨p, 0, none⟩ a).setCell ⟨p, 1, none⟩ b).setCell ⟨p, 2, none⟩ c).heap[g]? = w.heap[g]? := by
  rw [Below.heap_setCell _ _ _ _ h, Below.heap_setCell _ _ _ _ h, Below.heap_setCell _ _ _ _ h]
theorem set3_below {B : Nat} {a w : World} {p : Nat} (h : Below B a w) (hp : B ≤ p) (x y z : Value) : Below B a (((w.setCell ⟨p, 0, none⟩ x).setCell ⟨p, 1, none⟩ y).setCell ⟨p, 2, none⟩ z) :=
  ((h.setCell (p := ⟨p, 0, none⟩) hp x).setCell (p := ⟨p, 1, none⟩) hp y).setCell (p := ⟨p, 2, none⟩) hp z
theorem set3_size (w : World) (p : Nat) (a b c : Value) : (((w.setCell ⟨p, 0, none⟩ a).setCell ⟨p, 1, none⟩ b).setCell ⟨p, 2, none⟩ c).heap.size = w.heap.size := by simp

end Go.Proofs.YthphadbcebeoaaaGreatDoor
