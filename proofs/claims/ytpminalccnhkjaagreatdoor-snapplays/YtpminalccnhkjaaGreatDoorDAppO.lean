/- Append to a file that is there. -/
import Derived.Test.YtpminalccnhkjaaGreatDoorJDFitsDAppSDAppW
namespace Go.Proofs.YtpminalccnhkjaaGreatDoor.Dk
open Go.RowKit Go.Lib Go.Maps Go.WideMaps

set_option maxHeartbeats 6400000 in
set_option maxRecDepth 100000 in
theorem append_old_no {w : World} {p : Nat} {S : St} {mb : Option Nat} {L : List Ent} {O : Nat → Prop} (s : ByteArray) (a : Option Addr) (k : Nat) (lb : List UInt8) (e : Ent) (h : DK w p S mb L O) (hO : ∀ k, O k → k < w.heap.size) (hE : ET w) (hs : s.size ≤ maxLen)
    (hr : 0 ≤ S.room ∧ S.room ≤ 4611686018427387904) (hc : 0 ≤ S.count ∧ S.count < 1000000000) (hl : S.halting = true → 0 ≤ S.left ∧ S.left < 9223372036854775808) (hlk : look L s.data.toList = some e)
    (hno : (beginS S (appC S L s.data.toList lb.length)).2 ≠ 0) :
    Calls Tryz.prog 8 #[.pointer (some ⟨p, 0, none⟩), .string s, .slice a lb.length k] w (AppPost w p S L O s.data.toList lb) := by
  have HF := hide (find_any s h hs)
  have hfr : FindRes L s.data.toList = .tuple #[.pointer (some ⟨e.fp, 0, none⟩), .nilIface] := by unfold FindRes; rw [hlk]
  rw [hfr] at HF
  obtain ⟨hem, hen⟩ := look_mem hlk
  have hef := h.files e hem
  obtain ⟨a0, k0, hv0⟩ := own_v hef
  have hcell : w.cell? ⟨e.fp, 0, none⟩ = some (.slice a0 e.data.length k0) := by rw [(cellB hef.blk 0).1, ← hv0]; rfl
  have HT := hide (fits_any e.fp e.data.length lb.length a0 k0 h hr hef.len hcell)
  have hC : appC S L s.data.toList lb.length = if fitsB S L e.data.length lb.length = true then 0 else 31 := by unfold appC; rw [hlk]
  have HB := hide (fun (w1 : World) (hb : Below w.heap.size w w1) (v : Value) (c : Int) (hv : ErrIn w1 v c) (hw : ∀ b, v = evW b → ¬ Old w b) =>
    begin_any (w := w1) s v c (h.below hO hb) (fun k hk => Nat.lt_of_lt_of_le (hO k hk) hb.size) (Old w) (fun _ hk => Nat.lt_of_lt_of_le hk hb.size) (hE.below hb hE.lt) hv hw hc hl)
  unfold AppPost
  rw [hC] at hno ⊢
  clear h hC hfr hef hcell hE
  by_cases hfit : fitsB S L e.data.length lb.length = true
  · rw [if_pos hfit] at hno ⊢
    rw [hfit] at HT
    have HX : Hid (∀ w' v', ErrOut (Old w) w' v' (beginS S 0).2 → ∃ b, v' = evW b) := fun w' v' h1 => by
      rcases h1 with ⟨_, h2⟩ | ⟨_, b, hb, _⟩
      · exact absurd h2 hno
      · exact ⟨b, hb⟩
    go_enter Tryz.func8, Tryz.ntmps8
    go_wp2_with (first
      | (go_at_call 24; refine (unhide HF).mono ?_; rintro e0 w0 ⟨rfl, rfl⟩)
      | (go_at_call 25; refine (is_nil 30 _).mono ?_; rintro e0 w0 ⟨rfl, rfl⟩)
      | (go_at_call 27; refine (unhide HT).mono ?_; rintro e0 w1 ⟨rfl, hb1⟩)
      | (go_at_call 28; refine (unhide HB _ hb1 _ 0 (.inl ⟨rfl, rfl⟩) (fun b hb => by cases hb)).mono ?_; rintro e0 w2 ⟨v1, rfl, he1, hd1, hf1⟩; obtain ⟨b1, rfl⟩ := unhide HX _ _ he1))
    go_ret
    exact ⟨_, mb, L, rfl, he1, hd1.mono (fun k hk => .inl hk), FrO.trans (FrO.of_below (O := O) hb1) hf1 (fun _ _ hh => hh), fun _ => rfl, fun hh => absurd hh hno⟩
  · have hfit' : fitsB S L e.data.length lb.length = false := by simpa using hfit
    rw [if_neg hfit] at hno ⊢
    rw [hfit'] at HT
    have HX : Hid (∀ w' v', ErrOut (Old w) w' v' (beginS S 31).2 → ∃ b, v' = evW b) := fun w' v' h1 => by
      rcases h1 with ⟨_, h2⟩ | ⟨_, b, hb, _⟩
      · exact absurd h2 hno
      · exact ⟨b, hb⟩
    go_enter Tryz.func8, Tryz.ntmps8
    go_wp2_with (first
      | (go_at_call 24; refine (unhide HF).mono ?_; rintro e0 w0 ⟨rfl, rfl⟩)
      | (go_at_call 25; refine (is_nil 30 _).mono ?_; rintro e0 w0 ⟨rfl, rfl⟩)
      | (go_at_call 27; refine (unhide HT).mono ?_; rintro e0 w1 ⟨rfl, hb1⟩)
      | (go_at_call 28; refine (unhide HB _ hb1 _ 31 (.inr ⟨by decide, .inl rfl⟩) (fun b hb => by cases hb)).mono ?_; rintro e0 w2 ⟨v1, rfl, he1, hd1, hf1⟩; obtain ⟨b1, rfl⟩ := unhide HX _ _ he1))
    go_ret
    exact ⟨_, mb, L, rfl, he1, hd1.mono (fun k hk => .inl hk), FrO.trans (FrO.of_below (O := O) hb1) hf1 (fun _ _ hh => hh), fun _ => rfl, fun hh => absurd hh hno⟩

theorem own_sl {w : World} {B : Nat} {e : TypeId} {sz : Nat} {v : Value} {n : Nat} {xs : List Value} (h : w.ownsRow B e sz v n xs) : ∃ a k, v = .slice a n k := by
  rcases h.2 with ⟨rfl, rfl⟩ | ⟨g, cap, cur, rfl, _⟩
  · exact ⟨none, 0, rfl⟩
  · exact ⟨_, _, rfl⟩
theorem appC_zero_old {S : St} {L : List Ent} {n : List UInt8} {m : Nat} {e : Ent} (hlk : look L n = some e) (h : (beginS S (appC S L n m)).2 = 0) : fitsB S L e.data.length m = true ∧ appC S L n m = 0 := by
  have h0 : appC S L n m = 0 := by
    rcases Int.decEq (appC S L n m) 0 with hn | hn
    · exact absurd h (beginS_ne hn).1
    · exact hn
  refine ⟨?_, h0⟩
  unfold appC at h0
  rw [hlk] at h0
  by_cases hf : fitsB S L e.data.length m = true
  · exact hf
  · simp only [if_neg hf] at h0; exact absurd h0 (by decide)
theorem beginS_room (S : St) (c : Int) : (beginS S c).1.room = S.room := by
  unfold beginS
  split
  · rfl
  · split
    · rfl
    · split <;> rfl

set_option maxHeartbeats 6400000 in
set_option maxRecDepth 100000 in
theorem append_old_ok {w : World} {p : Nat} {S : St} {mb : Option Nat} {L : List Ent} {O : Nat → Prop} (s : ByteArray) (v : Value) (lb : List UInt8) (e : Ent) (h : DK w p S mb L O) (hO : ∀ k, O k → k < w.heap.size) (hE : ET w) (hs : s.size ≤ 1000)
    (hr : 0 ≤ S.room ∧ S.room ≤ 4611686018427387904) (hc : 0 ≤ S.count ∧ S.count < 1000000000) (hl : S.halting = true → 0 ≤ S.left ∧ S.left < 9223372036854775808) (hlk : look L s.data.toList = some e)
    (hv : RBo w O v lb) (hno : (beginS S (appC S L s.data.toList lb.length)).2 = 0) :
    Calls Tryz.prog 8 #[.pointer (some ⟨p, 0, none⟩), .string s, v] w (AppPost w p S L O s.data.toList lb) := by
  have hsm : s.size ≤ maxLen := by unfold maxLen; omega
  obtain ⟨a, k, rfl⟩ := hv.slice
  have HF := hide (find_any s h hsm)
  have hfr : FindRes L s.data.toList = .tuple #[.pointer (some ⟨e.fp, 0, none⟩), .nilIface] := by unfold FindRes; rw [hlk]
  rw [hfr] at HF
  obtain ⟨hem, hen⟩ := look_mem hlk
  have hef := h.files e hem
  obtain ⟨a0, k0, hv0⟩ := own_v hef
  have hcell : w.cell? ⟨e.fp, 0, none⟩ = some (.slice a0 e.data.length k0) := by rw [(cellB hef.blk 0).1, ← hv0]; rfl
  have HT := hide (fits_any e.fp e.data.length lb.length a0 k0 h hr hef.len hcell)
  obtain ⟨hfit, h0⟩ := appC_zero_old hlk hno
  have hfl := fits_le hfit
  have HB := hide (fun (w1 : World) (hb : Below w.heap.size w w1) =>
    begin_any (w := w1) s .nilIface 0 (h.below hO hb) (fun k hk => Nat.lt_of_lt_of_le (hO k hk) hb.size) (Old w) (fun _ hk => Nat.lt_of_lt_of_le hk hb.size) (hE.below hb hE.lt) (.inl ⟨rfl, rfl⟩) (fun b hb => by cases hb) hc hl)
  have hlen := hef.len
  have hris := h.rising
  unfold AppPost oldData oldSure
  rw [h0] at hno ⊢
  rw [hlk]
  rw [hfit] at HT
  have HX : Hid (∀ w' v', ErrOut (Old w) w' v' (beginS S 0).2 → v' = .nilIface) := fun w' v' h1 => by
    rcases h1 with ⟨hh, _⟩ | ⟨h2, _⟩
    · exact hh
    · exact absurd hno h2
  -- behind begin: what append may read and write
  have HS : Hid (∀ w1 w2, Below w.heap.size w w1 → FrO O w1 w2 → DK w2 p (beginS S 0).1 mb L O → w2.cell? ⟨e.fp, 0, none⟩ = some (.slice a0 e.data.length k0) ∧ w2.ownsRow 0 5 1 (.slice a0 e.data.length k0) e.data.length (byteCells e.data) ∧ RBo w2 O (.slice a lb.length k) lb ∧ FrO O w w2 ∧ (∀ k, O k → k < w2.heap.size)) := by
    intro w1 w2 hb hf hd
    have hef2 := hd.files e hem
    have hf2 : FrO O w w2 := FrO.trans (FrO.of_below (O := O) hb) hf (fun _ _ hh => hh)
    refine ⟨by rw [(cellB hef2.blk 0).1, ← hv0]; rfl, hv0 ▸ hef2.row, hv.fr hf2, hf2, fun k hk => Nat.lt_of_lt_of_le (hO k hk) hf2.size⟩
  -- behind append
  have HP : Hid (∀ w2 w3 v3, FrO O w w2 → (∀ k, O k → k < w2.heap.size) → DK w2 p (beginS S 0).1 mb L O → w3.ownsRow 0 5 1 v3 (e.data.length + lb.length) (byteCells e.data ++ byteCells lb) → w2.grownBy w3 (Value.slice a0 e.data.length k0).ownBlock → (v3.ownBlock = (Value.slice a0 e.data.length k0).ownBlock ∨ v3.ownBlock = some w2.heap.size) →
      w3.cell? ⟨e.fp, 0, none⟩ = some (.slice a0 e.data.length k0) ∧ w3.frozen? ⟨e.fp, 0, none⟩ = false ∧ Calls Tryz.prog 29 #[.pointer (some ⟨p, 0, none⟩), .string s, .pointer (some ⟨e.fp, 0, none⟩)] (w3.setCell ⟨e.fp, 0, none⟩ v3) fun ev w' => ev = .returned (.tuple #[]) ∧ ∃ mb', DK w' p (beginS S 0).1 mb' (putE ⟨e.name, e.fp, v3, e.data ++ lb, e.sure⟩ L) (From O w.heap.size w') ∧ FrO O w w') := by
    intro w2 w3 v3 hf2 hO2 hd2 hrow hg hloc
    rw [← hv0] at hg hloc
    obtain ⟨hd4, hfile4, hf4⟩ := app_old hd2 hO2 e hem v3 lb hrow hg hloc hfl
    have hef2 := hd2.files e hem
    have hne : e.v.ownBlock ≠ some e.fp := by
      intro hx
      rcases hef2.row.2 with ⟨e1, _⟩ | ⟨g, cap, cur, e1, _, hc, _⟩
      · rw [e1] at hx; simp [Value.ownBlock] at hx
      · rw [e1] at hx; simp [Value.ownBlock] at hx; subst hx; rw [hef2.blk] at hc; injection hc with hc; injection hc with _ h2; exact absurd h2 (by decide)
    have hb3 : w3.heap[e.fp]? = some (.cells #[e.v, .int .i64 (e.sure : Int)] 75 (0, 0)) := (hg.block e.fp hef2.lt (fun hx => hne hx.symm)).trans hef2.blk
    have hput : putE ⟨e.name, e.fp, v3, e.data ++ lb, e.sure⟩ (repl ⟨e.name, e.fp, v3, e.data ++ lb, e.sure⟩ L) = repl ⟨e.name, e.fp, v3, e.data ++ lb, e.sure⟩ L :=
      putE_same hd4.rising (mem_repl_self hem rfl)
    have hpl : putE ⟨e.name, e.fp, v3, e.data ++ lb, e.sure⟩ L = repl ⟨e.name, e.fp, v3, e.data ++ lb, e.sure⟩ L := putE_repl hris hem rfl
    have hmem' := mem_repl_self (e' := ⟨e.name, e.fp, v3, e.data ++ lb, e.sure⟩) hem rfl
    refine ⟨by rw [(cellB hb3 0).1, ← hv0]; rfl, (cellB hb3 0).2, ?_⟩
    refine (put_any s ⟨e.name, e.fp, v3, e.data ++ lb, e.sure⟩ hen.symm hd4 (From.lt hO2 hf4.size) hs hfile4 (fun x hx hxn => ?_) (hd4.oF _ hmem') (hd4.oR _ hmem') (by rw [hput]; exact hd4.few)).mono ?_
    · have := apart_of hd4.apart hx hmem' hxn
      exact ⟨this, this.symm⟩
    · rintro ev w' ⟨rfl, mb', hd5, hf5⟩
      rw [hput] at hd5
      rw [hpl]
      have h24 := hf4.size
      have h02 := hf2.size
      have h45 := hf5.size
      refine ⟨rfl, mb', hd5.mono (fun k hk => ?_), FrO.trans hf2 (FrO.trans hf4 hf5 (fun k hk hh => hh.elim id (fun hh => absurd hk (by omega)))) (fun _ _ hh => hh)⟩
      rcases hk with (hk | hk) | hk
      · exact .inl hk
      · exact .inr ⟨by omega, by omega⟩
      · exact .inr ⟨by omega, by omega⟩
  clear h hfr hef hcell hE hv hlen hris hc hl hr
  go_enter Tryz.func8, Tryz.ntmps8
  go_wp2_with (first
    | (go_at_call 24; refine (unhide HF).mono ?_; rintro e0 w0 ⟨rfl, rfl⟩)
    | (go_at_call 25; refine (is_nil 30 _).mono ?_; rintro e0 w0 ⟨rfl, rfl⟩)
    | (go_at_call 27; refine (unhide HT).mono ?_; rintro e0 w1 ⟨rfl, hb1⟩)
    | (go_at_call 28; refine (unhide HB _ hb1).mono ?_; rintro e0 w2 ⟨v1, rfl, he1, hd1, hf1⟩; have e1 := unhide HX _ _ he1; subst e1; obtain ⟨c2, r2, b2, g2, o2⟩ := unhide HS _ _ hb1 hf1 hd1)
    | (at_builtin; refine wpList_append_at (w := w2) rfl _ _ rfl (.slice a0 e.data.length k0) e.data.length (byteCells e.data) rfl r2 O (.slice a lb.length k) lb rfl b2 (by omega) ?_; intro v3 w3 hrow3 hg3 hloc3; obtain ⟨a3, k3, rfl⟩ := own_sl hrow3; obtain ⟨c3, f3, P3⟩ := unhide HP _ _ _ g2 o2 hd1 hrow3 hg3 hloc3)
    | (go_at_call 29; refine P3.mono ?_; rintro e0 w4 ⟨rfl, mb4, hd4, hf4⟩))
  go_ret
  exact ⟨_, mb4, _, rfl, .inl ⟨rfl, hno⟩, hd4, hf4, fun hh => absurd hno hh, fun _ => ⟨_, rfl, hen, rfl, rfl⟩⟩
end Go.Proofs.YtpminalccnhkjaaGreatDoor.Dk
