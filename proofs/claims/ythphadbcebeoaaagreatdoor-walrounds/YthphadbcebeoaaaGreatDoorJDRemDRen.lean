/- Remove. -/
import Derived.Test.YthphadbcebeoaaaGreatDoorJDCrashDTrunc
namespace Go.Proofs.YthphadbcebeoaaaGreatDoor.Dk
open Go.RowKit Go.Lib Go.Maps Go.WideMaps

theorem dk_del {w w' : World} {p b n : Nat} {S : St} {L : List Ent} {O : Nat → Prop} (h : DK w p S (some b) L O) (nm : List UInt8) (hown : w'.ownsMap Tryz.prog 9 RP b n ((DL L).del (.string nm))) (ht : w.mapTurned w' b) : DK w' p S (some b) (delE nm L) O := by
  rw [del_DL] at hown
  refine ⟨?_, fun hh => (by cases hh), fun b' hb' => ?_, fun x hx => file_kept (h.files x (mem_delE.1 hx).1) ht, h.apart.filter _, Nat.le_trans (List.length_filter_le _ _) h.few, h.oP, h.oM, fun x hx => h.oF x (mem_delE.1 hx).1, fun x hx => h.oR x (mem_delE.1 hx).1⟩
  · obtain ⟨es, clock, es', clock', hb, rfl⟩ := ht
    rw [ChangeMaps.heap_setBlock_other hb _ (by rintro rfl; have := h.disk; rw [hb] at this; cases this)]
    exact h.disk
  · cases hb'
    exact ownsMap_tight hown

/-- What Remove leaves. -/
def RemPost (w : World) (p : Nat) (S : St) (mb : Option Nat) (L : List Ent) (O : Nat → Prop) (n : List UInt8) (e : Ending) (w' : World) : Prop :=
  ∃ v L', e = .returned v ∧ ErrOut (Old w) w' v (beginS S (thereC L n)).2 ∧ DK w' p (beginS S (thereC L n)).1 mb L' O ∧ FrO O w w' ∧
    ((beginS S (thereC L n)).2 ≠ 0 → L' = L) ∧ ((beginS S (thereC L n)).2 = 0 → L' = delE n L)

set_option maxHeartbeats 3200000 in
set_option maxRecDepth 100000 in
theorem remove_any {w : World} {p : Nat} {S : St} {mb : Option Nat} {L : List Ent} {O : Nat → Prop} (s : ByteArray) (h : DK w p S mb L O) (hO : ∀ k, O k → k < w.heap.size) (hE : ET w) (hs : s.size ≤ maxLen)
    (hc : 0 ≤ S.count ∧ S.count < 1000000000) (hl : S.halting = true → 0 ≤ S.left ∧ S.left < 9223372036854775808) :
    Calls Tryz.prog 54 #[.pointer (some ⟨p, 0, none⟩), .string s] w (RemPost w p S mb L O s.data.toList) := by
  have HF := hide (find_any s h hs)
  have hkey := keyOf_string_mk (P := Tryz.prog) (k := 9) Tryz.underlying9 hs
  unfold FindRes at HF
  unfold RemPost thereC
  cases hlk : look L s.data.toList with
  | none =>
    rw [hlk] at HF
    have HB := hide (begin_any s (evC 30) 30 h hO (Old w) (fun _ hh => hh) hE (.inr ⟨by decide, .inl rfl⟩) (fun b hb => by cases hb) hc hl)
    have hbs := beginS_ne (S := S) (c := 30) (by decide)
    have HX : Hid (∀ w' v', ErrOut (Old w) w' v' (beginS S 30).2 → ∃ b, v' = evW b) := fun w' v' h1 => by
      rcases h1 with ⟨_, h2⟩ | ⟨_, b, hb, _⟩
      · exact absurd h2 hbs.1
      · exact ⟨b, hb⟩
    clear h
    go_enter Tryz.func54, Tryz.ntmps54
    go_wp2_with (first
      | (go_at_call 44; refine (unhide HF).mono ?_; rintro e0 w0 ⟨rfl, rfl⟩)
      | (go_at_call 47; refine (unhide HB).mono ?_; rintro e0 w1 ⟨v1, rfl, he1, hd1, hf1⟩; obtain ⟨b1, rfl⟩ := unhide HX _ _ he1))
    go_ret
    exact ⟨_, L, rfl, he1, hd1, hf1, fun _ => rfl, fun hh => absurd hh hbs.1⟩
  | some e =>
    rw [hlk] at HF
    obtain ⟨hem, hen⟩ := look_mem hlk
    have HB := hide (begin_any s .nilIface 0 h hO (Old w) (fun _ hh => hh) hE (.inl ⟨rfl, rfl⟩) (fun b hb => by cases hb) hc hl)
    by_cases hno : (beginS S 0).2 = 0
    · have HX : Hid (∀ w' v', ErrOut (Old w) w' v' (beginS S 0).2 → v' = .nilIface) := fun w' v' h1 => by
        rcases h1 with ⟨hh, _⟩ | ⟨h2, _⟩
        · exact hh
        · exact absurd hno h2
      obtain ⟨b, rfl⟩ : ∃ b, mb = some b := by
        cases mb with
        | none => rw [h.none rfl] at hem; cases hem
        | some b => exact ⟨b, rfl⟩
      have HP : Hid (∀ w1, FrO O w w1 → DK w1 p (beginS S 0).1 (some b) L O → w1.cell? ⟨p, 1, none⟩ = some (.map (some b)) ∧ w1.ownsMap Tryz.prog 9 RP b L.length (DL L) ∧
          ∀ w2, w2.ownsMap Tryz.prog 9 RP b L.length ((DL L).del (.string s.data.toList)) → w1.mapTurned w2 b → DK w2 p (beginS S 0).1 (some b) (delE s.data.toList L) O ∧ FrO O w1 w2) := by
        intro w1 hf1 hd1
        exact ⟨hd1.cells.2.1, hd1.some b rfl, fun w2 ho ht => ⟨dk_del hd1 _ ho ht, FrO.turned ht (hd1.oM b rfl)⟩⟩
      clear h
      go_enter Tryz.func54, Tryz.ntmps54
      go_wp2_with (first
        | (go_at_call 44; refine (unhide HF).mono ?_; rintro e0 w0 ⟨rfl, rfl⟩)
        | (go_at_call 47; refine (unhide HB).mono ?_; rintro e0 w1 ⟨v1, rfl, he1, hd1, hf1⟩; have e1 := unhide HX _ _ he1; subst e1; obtain ⟨c1, m1, p1⟩ := unhide HP _ hf1 hd1; have P1 := hide p1; clear p1)
        | (at_delete; refine wpList_delete_own _ rfl _ _ 71 9 rfl 90 Tryz.law Tryz.underlying71 _ b L.length (DL L) rfl m1 _ _ rfl hkey ?_; intro w2 ho2 ht2; obtain ⟨d2, g2⟩ := unhide P1 w2 ho2 ht2))
      go_ret
      exact ⟨_, _, rfl, .inl ⟨rfl, hno⟩, d2, FrO.trans hf1 g2 (fun _ _ hh => hh), fun hh => absurd hno hh, fun _ => rfl⟩
    · have HX : Hid (∀ w' v', ErrOut (Old w) w' v' (beginS S 0).2 → ∃ b, v' = evW b) := fun w' v' h1 => by
        rcases h1 with ⟨_, h2⟩ | ⟨_, b, hb, _⟩
        · exact absurd h2 hno
        · exact ⟨b, hb⟩
      clear h
      go_enter Tryz.func54, Tryz.ntmps54
      go_wp2_with (first
        | (go_at_call 44; refine (unhide HF).mono ?_; rintro e0 w0 ⟨rfl, rfl⟩)
        | (go_at_call 47; refine (unhide HB).mono ?_; rintro e0 w1 ⟨v1, rfl, he1, hd1, hf1⟩; obtain ⟨b1, rfl⟩ := unhide HX _ _ he1))
      go_ret
      exact ⟨_, L, rfl, he1, hd1, hf1, fun _ => rfl, fun hh => absurd hh hno⟩
end Go.Proofs.YthphadbcebeoaaaGreatDoor.Dk
/- Rename. -/
namespace Go.Proofs.YthphadbcebeoaaaGreatDoor.Dk
open Go.RowKit Go.Lib Go.Maps Go.WideMaps

/-- Why a Rename is refused, if it is. -/
def renC (L : List Ent) (a b : List UInt8) : Int := if okN b = true then thereC L a else 20
def nameE (e : Ent) (n : List UInt8) : Ent := { e with name := n }
theorem length_delE_lt {L : List Ent} {e : Ent} {n : List UInt8} (h : look L n = some e) : (delE n L).length < L.length := by
  obtain ⟨h1, h2⟩ := look_mem h
  unfold delE
  refine Nat.lt_of_le_of_ne (List.length_filter_le _ _) fun hh => ?_
  have := (List.length_filter_eq_length_iff.1 hh) e h1
  simp [h2] at this
theorem length_putE_le (e : Ent) (L : List Ent) : (putE e L).length ≤ L.length + 1 := by
  unfold putE
  rw [length_insE]
  have := List.length_filter_le (fun x : Ent => !(x.name == e.name)) L
  unfold delE
  omega

/-- What Rename leaves. -/
def RenPost (w : World) (p : Nat) (S : St) (L : List Ent) (O : Nat → Prop) (a b : List UInt8) (e : Ending) (w' : World) : Prop :=
  ∃ v mb' L', e = .returned v ∧ ErrOut (Old w) w' v (beginS S (renC L a b)).2 ∧ DK w' p (beginS S (renC L a b)).1 mb' L' (From O w.heap.size w') ∧ FrO O w w' ∧
    ((beginS S (renC L a b)).2 ≠ 0 → L' = L) ∧ ((beginS S (renC L a b)).2 = 0 → ∃ e', look L a = some e' ∧ L' = putE (nameE e' b) (delE a L))

theorem From.mono0 {O : Nat → Prop} {n : Nat} {w : World} {k : Nat} (h : O k) : From O n w k := .inl h

set_option maxHeartbeats 6400000 in
set_option maxRecDepth 100000 in
theorem rename_bad {w : World} {p : Nat} {S : St} {mb : Option Nat} {L : List Ent} {O : Nat → Prop} (s t : ByteArray) (h : DK w p S mb L O) (hO : ∀ k, O k → k < w.heap.size) (hE : ET w) (hs : s.size ≤ maxLen) (ht : t.size ≤ maxLen)
    (hc : 0 ≤ S.count ∧ S.count < 1000000000) (hl : S.halting = true → 0 ≤ S.left ∧ S.left < 9223372036854775808) (hn : okN t.data.toList = false) :
    Calls Tryz.prog 102 #[.pointer (some ⟨p, 0, none⟩), .string s, .string t] w (RenPost w p S L O s.data.toList t.data.toList) := by
  have HF := hide (find_any s h hs)
  have HN := hide (nameMayBe_any t w ht)
  rw [hn] at HN
  unfold RenPost renC
  rw [hn]
  simp only [Bool.false_eq_true, if_false]
  obtain ⟨fv, fe, hfr⟩ : ∃ fv fe, FindRes L s.data.toList = .tuple #[fv, fe] := by
    unfold FindRes
    cases look L s.data.toList with
    | none => exact ⟨_, _, rfl⟩
    | some e => exact ⟨_, _, rfl⟩
  rw [hfr] at HF
  have HW := hide (within_class t 20 w hE)
  have hbs := beginS_ne (S := S) (c := 20) (by decide)
  have HB : Hid (∀ w1 b, w.heap.size ≤ b → ErrW w1 b 20 → Below w.heap.size w w1 → Calls Tryz.prog 47 #[.pointer (some ⟨p, 0, none⟩), .string s, evW b] w1 fun e w' => ∃ b', e = .returned (evW b') ∧ ErrOut (Old w) w' (evW b') (beginS S 20).2 ∧ DK w' p (beginS S 20).1 mb L O ∧ FrO O w w') := by
    intro w1 b hb he hbl
    refine (begin_any (w := w1) s (evW b) 20 (h.below hO hbl) (fun k hk => Nat.lt_of_lt_of_le (hO k hk) hbl.size) (Old w) (fun _ hk => Nat.lt_of_lt_of_le hk hbl.size) (hE.below hbl hE.lt) (.inr ⟨by decide, .inr ⟨b, rfl, he⟩⟩) (fun b' hb' hh => by cases hb'; exact absurd hh (by unfold Old; omega)) hc hl).mono ?_
    rintro e w' ⟨v', rfl, he', hd', hf'⟩
    rcases he' with ⟨_, h2⟩ | ⟨hne, b', rfl, r⟩
    · exact absurd h2 hbs.1
    · exact ⟨b', rfl, .inr ⟨hne, b', rfl, r⟩, hd', FrO.trans (FrO.of_below (O := O) hbl) hf' (fun _ _ hh => hh)⟩
  clear h hE
  go_enter Tryz.func102, Tryz.ntmps102
  go_wp2_with (first
    | (go_at_call 44; refine (unhide HF).mono ?_; rintro e0 w0 ⟨rfl, rfl⟩)
    | (go_at_call 70; refine (unhide HN).mono ?_; rintro e0 w0 ⟨rfl, rfl⟩)
    | (go_at_call 49; refine (unhide HW).mono ?_; rintro e0 w1 ⟨b1, rfl, hb1, he1, hf1⟩; have P1 := hide (unhide HB w1 b1 hb1 he1 hf1))
    | (go_at_call 47; refine (unhide P1).mono ?_; rintro e0 w2 ⟨b2, rfl, he2, hd2, hf2⟩))
  go_ret
  exact ⟨_, mb, L, rfl, he2, hd2.mono (fun k hk => .inl hk), hf2, fun _ => rfl, fun hh => absurd hh hbs.1⟩

set_option maxHeartbeats 6400000 in
set_option maxRecDepth 100000 in
theorem rename_no {w : World} {p : Nat} {S : St} {mb : Option Nat} {L : List Ent} {O : Nat → Prop} (s t : ByteArray) (h : DK w p S mb L O) (hO : ∀ k, O k → k < w.heap.size) (hE : ET w) (hs : s.size ≤ maxLen) (ht : t.size ≤ maxLen)
    (hc : 0 ≤ S.count ∧ S.count < 1000000000) (hl : S.halting = true → 0 ≤ S.left ∧ S.left < 9223372036854775808) (hn : okN t.data.toList = true) (hno : (beginS S (thereC L s.data.toList)).2 ≠ 0) :
    Calls Tryz.prog 102 #[.pointer (some ⟨p, 0, none⟩), .string s, .string t] w (RenPost w p S L O s.data.toList t.data.toList) := by
  have HF := hide (find_any s h hs)
  have HN := hide (nameMayBe_any t w ht)
  rw [hn] at HN
  unfold RenPost renC
  rw [hn]
  simp only [if_true]
  obtain ⟨fv, fe, hfr, hfe⟩ : ∃ fv fe, FindRes L s.data.toList = .tuple #[fv, fe] ∧ ErrIn w fe (thereC L s.data.toList) ∧ (∀ b, fe ≠ evW b) := by
    unfold FindRes thereC
    cases look L s.data.toList with
    | none => exact ⟨_, _, rfl, .inr ⟨by decide, .inl rfl⟩, fun b hb => by cases hb⟩
    | some e => exact ⟨_, _, rfl, .inl ⟨rfl, rfl⟩, fun b hb => by cases hb⟩
  rw [hfr] at HF
  have HB : Hid (Calls Tryz.prog 47 #[.pointer (some ⟨p, 0, none⟩), .string s, fe] w fun e w' => ∃ b', e = .returned (evW b') ∧ ErrOut (Old w) w' (evW b') (beginS S (thereC L s.data.toList)).2 ∧ DK w' p (beginS S (thereC L s.data.toList)).1 mb L O ∧ FrO O w w') := by
    refine (begin_any s fe (thereC L s.data.toList) h hO (Old w) (fun _ hh => hh) hE hfe.1 (fun b' hb' => absurd hb' (hfe.2 b')) hc hl).mono ?_
    rintro e w' ⟨v', rfl, he', hd', hf'⟩
    rcases he' with ⟨_, h2⟩ | ⟨hne, b', rfl, r⟩
    · exact absurd h2 hno
    · exact ⟨b', rfl, .inr ⟨hne, b', rfl, r⟩, hd', hf'⟩
  clear h hE hfe
  go_enter Tryz.func102, Tryz.ntmps102
  go_wp2_with (first
    | (go_at_call 44; refine (unhide HF).mono ?_; rintro e0 w0 ⟨rfl, rfl⟩)
    | (go_at_call 70; refine (unhide HN).mono ?_; rintro e0 w0 ⟨rfl, rfl⟩)
    | (go_at_call 47; refine (unhide HB).mono ?_; rintro e0 w2 ⟨b2, rfl, he2, hd2, hf2⟩))
  go_ret
  exact ⟨_, mb, L, rfl, he2, hd2.mono (fun k hk => .inl hk), hf2, fun _ => rfl, fun hh => absurd hh hno⟩

set_option maxHeartbeats 6400000 in
set_option maxRecDepth 100000 in
theorem rename_ok {w : World} {p : Nat} {S : St} {mb : Option Nat} {L : List Ent} {O : Nat → Prop} (s t : ByteArray) (h : DK w p S mb L O) (hO : ∀ k, O k → k < w.heap.size) (hE : ET w) (hs : s.size ≤ maxLen) (ht : t.size ≤ 1000)
    (hc : 0 ≤ S.count ∧ S.count < 1000000000) (hl : S.halting = true → 0 ≤ S.left ∧ S.left < 9223372036854775808) (hn : okN t.data.toList = true) (e : Ent) (hlk : look L s.data.toList = some e) (hno : (beginS S 0).2 = 0) :
    Calls Tryz.prog 102 #[.pointer (some ⟨p, 0, none⟩), .string s, .string t] w (RenPost w p S L O s.data.toList t.data.toList) := by
  have HF := hide (find_any s h hs)
  have hkey := keyOf_string_mk (P := Tryz.prog) (k := 9) Tryz.underlying9 hs
  have HN := hide (nameMayBe_any t w (by unfold maxLen; omega))
  rw [hn] at HN
  have hth : thereC L s.data.toList = 0 := by unfold thereC; rw [hlk]
  unfold RenPost renC
  rw [hn]
  simp only [if_true, hth]
  have hfr : FindRes L s.data.toList = .tuple #[.pointer (some ⟨e.fp, 0, none⟩), .nilIface] := by unfold FindRes; rw [hlk]
  rw [hfr] at HF
  obtain ⟨hem, hen⟩ := look_mem hlk
  obtain ⟨b, rfl⟩ : ∃ b, mb = some b := by
    cases mb with
    | none => rw [h.none rfl] at hem; cases hem
    | some b => exact ⟨b, rfl⟩
  have HB := hide (begin_any s .nilIface 0 h hO (Old w) (fun _ hh => hh) hE (.inl ⟨rfl, rfl⟩) (fun b hb => by cases hb) hc hl)
  have HX : Hid (∀ w' v', ErrOut (Old w) w' v' (beginS S 0).2 → v' = .nilIface) := fun w' v' h1 => by
    rcases h1 with ⟨hh, _⟩ | ⟨h2, _⟩
    · exact hh
    · exact absurd hno h2
  have HP : Hid (∀ w1, FrO O w w1 → DK w1 p (beginS S 0).1 (some b) L O → w1.cell? ⟨p, 1, none⟩ = some (.map (some b)) ∧ w1.ownsMap Tryz.prog 9 RP b L.length (DL L) ∧
      ∀ w2, w2.ownsMap Tryz.prog 9 RP b L.length ((DL L).del (.string s.data.toList)) → w1.mapTurned w2 b →
        Calls Tryz.prog 48 #[.pointer (some ⟨p, 0, none⟩), .string t, .pointer (some ⟨e.fp, 0, none⟩)] w2 fun ev w' => ev = .returned (.tuple #[]) ∧ ∃ mb', DK w' p (beginS S 0).1 mb' (putE (nameE e t.data.toList) (delE s.data.toList L)) (From O w.heap.size w') ∧ FrO O w w') := by
    intro w1 hf1 hd1
    refine ⟨hd1.cells.2.1, hd1.some b rfl, fun w2 ho ht2 => ?_⟩
    have hd2 := dk_del hd1 _ ho ht2
    have hf2 : FrO O w1 w2 := FrO.turned ht2 (hd1.oM b rfl)
    have hfile : FileAt w2 e := file_kept (hd1.files e hem) ht2
    have hz := turned_size ht2
    have hz1 := hf1.size
    refine (put_any t (nameE e t.data.toList) rfl hd2 (fun k hk => by have := hO k hk; omega) ht (show FileAt w2 (nameE e t.data.toList) from ⟨hfile.blk, hfile.row, hfile.sure, hfile.len⟩) (fun x hx _ => ?_) (hd1.oF e hem) (hd1.oR e hem) ?_).mono ?_
    · obtain ⟨hx1, hx2⟩ := mem_delE.1 hx
      have hne : x.name ≠ e.name := by rw [hen]; exact hx2
      have h1 : Apart x e := apart_of hd1.apart hx1 hem hne
      have h2 : Apart e x := apart_of hd1.apart hem hx1 (fun hh => hne hh.symm)
      exact ⟨h1, h2⟩
    · have h1 := length_putE_le (nameE e t.data.toList) (delE s.data.toList L)
      have h2 := length_delE_lt hlk
      have := hd1.few
      omega
    · rintro ev w' ⟨rfl, mb', hd', hf'⟩
      have hz2 := hf'.size
      refine ⟨rfl, mb', hd'.mono (fun k hk => ?_), FrO.trans hf1 (FrO.trans hf2 hf' (fun _ _ hh => hh)) (fun _ _ hh => hh)⟩
      rcases hk with hk | hk
      · exact .inl hk
      · exact .inr ⟨by omega, hk.2⟩
  clear h hE
  go_enter Tryz.func102, Tryz.ntmps102
  go_wp2_with (first
    | (go_at_call 44; refine (unhide HF).mono ?_; rintro e0 w0 ⟨rfl, rfl⟩)
    | (go_at_call 70; refine (unhide HN).mono ?_; rintro e0 w0 ⟨rfl, rfl⟩)
    | (go_at_call 47; refine (unhide HB).mono ?_; rintro e0 w1 ⟨v1, rfl, he1, hd1, hf1⟩; have e1 := unhide HX _ _ he1; subst e1; obtain ⟨c1, m1, p1⟩ := unhide HP _ hf1 hd1; have P1 := hide p1; clear p1)
    | (at_delete; refine wpList_delete_own _ rfl _ _ 71 9 rfl 90 Tryz.law Tryz.underlying71 _ b L.length (DL L) rfl m1 _ _ rfl hkey ?_; intro w2 ho2 ht2; have P2 := hide (unhide P1 w2 ho2 ht2))
    | (go_at_call 48; refine (unhide P2).mono ?_; rintro e0 w3 ⟨rfl, mb3, hd3, hf3⟩))
  go_ret
  exact ⟨_, mb3, _, rfl, .inl ⟨rfl, hno⟩, hd3, hf3, fun hh => absurd hno hh, fun _ => ⟨e, hlk, rfl⟩⟩

/-- Rename, whatever the names, the state. -/
theorem rename_any {w : World} {p : Nat} {S : St} {mb : Option Nat} {L : List Ent} {O : Nat → Prop} (s t : ByteArray) (h : DK w p S mb L O) (hO : ∀ k, O k → k < w.heap.size) (hE : ET w) (hs : s.size ≤ 1000) (ht : t.size ≤ 1000)
    (hc : 0 ≤ S.count ∧ S.count < 1000000000) (hl : S.halting = true → 0 ≤ S.left ∧ S.left < 9223372036854775808) :
    Calls Tryz.prog 102 #[.pointer (some ⟨p, 0, none⟩), .string s, .string t] w (RenPost w p S L O s.data.toList t.data.toList) := by
  have hsm : s.size ≤ maxLen := by unfold maxLen; omega
  have htm : t.size ≤ maxLen := by unfold maxLen; omega
  cases hn : okN t.data.toList with
  | false => exact rename_bad s t h hO hE hsm htm hc hl hn
  | true =>
    by_cases hno : (beginS S (thereC L s.data.toList)).2 = 0
    · cases hlk : look L s.data.toList with
      | none =>
        have hth : thereC L s.data.toList = 30 := by unfold thereC; rw [hlk]
        rw [hth] at hno
        exact absurd hno (beginS_ne (by decide)).1
      | some e =>
        have hth : thereC L s.data.toList = 0 := by unfold thereC; rw [hlk]
        rw [hth] at hno
        exact rename_ok s t h hO hE hsm ht hc hl hn e hlk hno
    · exact rename_no s t h hO hE hsm htm hc hl hn hno
end Go.Proofs.YthphadbcebeoaaaGreatDoor.Dk
