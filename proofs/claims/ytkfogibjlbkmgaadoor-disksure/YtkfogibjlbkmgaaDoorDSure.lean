/- DiskSure: its states; the disk's calls between them. -/
import Derived.Test.YtkfogibjlbkmgaaDoorDAbs
import Derived.Test.YtkfogibjlbkmgaaDoorDKnown
namespace Go.Proofs.YtkfogibjlbkmgaaDoor
open Go.RowKit Go.Lib Go.Maps Go.WideMaps

abbrev sF : ByteArray := ⟨#[102]⟩
theorem ok_f : okN sF.data.toList = true := by decide
/-- The one file, if it was made. -/
def oneF (A : List UInt8) (su : Nat) (m : Bool) : List Ent := if m = true then [fl [102] A su] else []
/-- A disk with that file, and the statement's own bytes apart from it. -/
def SureO (w wr : World) (p : Nat) (v : Value) (A : List UInt8) (F : List Ent) (c : Nat) : Prop :=
  ∃ O, DX wr p ⟨65536, (c : Int), false, false, 0⟩ F O ∧ (∀ k, O k → w.heap.size ≤ k) ∧ wr.ownsRow w.heap.size 5 1 v A.length (byteCells A) ∧ (∀ k, v.ownBlock = some k → ¬ O k) ∧ FrB w.heap.size w wr
structure SureAt (w wr : World) (p : Nat) (v : Value) (A : List UInt8) (su c : Nat) (m : Bool) : Prop where
  at' : SureO w wr p v A (oneF A su m) c
  sure : su ≤ A.length
  none : m = false → A = [] ∧ su = 0

theorem row_blk {w : World} {B : Nat} {v : Value} {n : Nat} {xs : List Value} (h : w.ownsRow B 5 1 v n xs) {k : Nat} (hk : v.ownBlock = some k) : B ≤ k ∧ k < w.heap.size := by
  rcases h.2 with ⟨e1, _⟩ | ⟨g, cap, cur, e1, hb, hc, _⟩
  · rw [e1] at hk; simp [Value.ownBlock] at hk
  · rw [e1] at hk; simp [Value.ownBlock] at hk; subst hk
    exact ⟨hb, (Array.getElem?_eq_some_iff.1 hc).1⟩
theorem SureO.fr {w wr w' : World} {p : Nat} {v : Value} {A : List UInt8} {F : List Ent} {c : Nat} (h : SureO w wr p v A F c) (hb : Below wr.heap.size wr w') : SureO w w' p v A F c := by
  obtain ⟨O, hd, hO, hr, hn, hf⟩ := h
  exact ⟨O, hd.below hb, hO, ownsRow_of_same hr (fun k hk => hb.block k (row_blk hr hk).2), hn, hf.trans (FrB.of_below hb)⟩
theorem SureAt.fr {w wr w' : World} {p : Nat} {v : Value} {A : List UInt8} {su c : Nat} {m : Bool} (h : SureAt w wr p v A su c m) (hb : Below wr.heap.size wr w') : SureAt w w' p v A su c m := ⟨h.at'.fr hb, h.sure, h.none⟩
theorem SureO.env {w wr : World} {p : Nat} {v : Value} {A : List UInt8} {F : List Ent} {c : Nat} (h : SureO w wr p v A F c) : FrB w.heap.size w wr := by
  obtain ⟨O, _, _, _, _, hf⟩ := h
  exact hf
theorem SureO.et {w wr : World} {p : Nat} {v : Value} {A : List UInt8} {F : List Ent} {c : Nat} (h : SureO w wr p v A F c) (hE : ET w) : ET wr := hE.frB h.env hE.lt
/-- What turned was the disk's. -/
theorem sure_step {w wr w' : World} {p : Nat} {v : Value} {A : List UInt8} {F' : List Ent} {c' : Nat} {O O' : Nat → Prop} (hO : ∀ k, O k → w.heap.size ≤ k) (hr : wr.ownsRow w.heap.size 5 1 v A.length (byteCells A)) (hn : ∀ k, v.ownBlock = some k → ¬ O k) (hf : FrB w.heap.size w wr)
    (hd : DX w' p ⟨65536, (c' : Int), false, false, 0⟩ F' O') (hf' : FrO O wr w') (hO' : ∀ k, O' k → O k ∨ wr.heap.size ≤ k) : SureO w w' p v A F' c' := by
  have hz := hf.size
  refine ⟨O', hd, fun k hk => ?_, ownsRow_of_same hr (fun k hk => hf'.blk k (row_blk hr hk).2 (hn k hk)), fun k hk hk' => ?_, hf.trans (FrB.of_fr hf' hO)⟩
  · rcases hO' k hk with h | h
    · exact hO k h
    · omega
  · rcases hO' k hk' with h | h
    · exact hn k hk h
    · have := (row_blk hr hk).2; omega

theorem rbo_two (W : World) (x y : UInt8) (O : Nat → Prop) (hO : ∀ k, O k → k < W.heap.size) : RBo (W.alloc (.cells #[.int .u8 (x.toNat : Int), .int .u8 (y.toNat : Int)] 5)) O (.slice (some ⟨W.heap.size, 0, none⟩) 2 2) [x, y] := by
  refine ⟨by simp, .inr ⟨W.heap.size, 0, 2, by simp, fun hh => absurd (hO _ hh) (by omega), by simp, by unfold maxLen; omega, rfl, fun i hi => ?_⟩⟩
  match i, hi with
  | 0, _ => simp
  | 1, _ => simp
theorem bs0 (c : Nat) : beginS ⟨65536, (c : Int), false, false, 0⟩ 0 = (⟨65536, ((c + 1 : Nat) : Int), false, false, 0⟩, 0) := by
  unfold beginS
  simp
theorem bs30 (c : Nat) : beginS ⟨65536, (c : Int), false, false, 0⟩ 30 = (⟨65536, (c : Int), false, false, 0⟩, 30) := by
  unfold beginS
  simp
theorem oneF_used (A : List UInt8) (su : Nat) (m : Bool) (h : m = false → A = []) : usedL (oneF A su m) = A.length := by
  cases m
  · rw [h rfl]; rfl
  · simp [oneF, usedL, fl]
theorem oneF_look (A : List UInt8) (su : Nat) (m : Bool) : look (oneF A su m) [102] = if m = true then some (fl [102] A su) else none := by
  cases m
  · rfl
  · rfl
theorem oneF_data (A : List UInt8) (su : Nat) (m : Bool) (h : m = false → A = []) : oldData (oneF A su m) [102] = A := by
  unfold oldData
  rw [oneF_look]
  cases m
  · rw [h rfl]; rfl
  · rfl
theorem oneF_sure (A : List UInt8) (su : Nat) (m : Bool) (h : m = false → su = 0) : oldSure (oneF A su m) [102] = su := by
  unfold oldSure
  rw [oneF_look]
  cases m
  · rw [h rfl]; rfl
  · rfl
theorem oneF_app (A : List UInt8) (su c k : Nat) (m : Bool) (h : m = false → A = []) (hA : A.length + k ≤ 200) : appC ⟨65536, (c : Int), false, false, 0⟩ (oneF A su m) [102] k = 0 := by
  have hfit : ∀ q, q ≤ 200 → fitsB ⟨65536, (c : Int), false, false, 0⟩ (oneF A su m) q k = true := fun q hq => by
    unfold fitsB
    rw [oneF_used A su m h]
    simp only [Bool.and_eq_true, decide_eq_true_eq]
    omega
  have han : anotherC (oneF A su m) [102] = 0 := by
    unfold anotherC
    have h1 : okN [102] = true := by decide
    rw [if_pos h1, if_pos]
    unfold oneF
    split <;> simp
  unfold appC
  rw [oneF_look]
  cases m
  · simp [han, hfit 0 (by omega)]
  · simp [hfit A.length (by omega), fl]
theorem oneF_put (A B : List UInt8) (su su' : Nat) (m : Bool) : putE (fl [102] B su') (oneF A su m) = [fl [102] B su'] := by
  cases m <;> rfl
theorem oneF_there (A : List UInt8) (su : Nat) (m : Bool) : thereC (oneF A su m) [102] = if m = true then 0 else 30 := by
  unfold thereC
  rw [oneF_look]
  cases m <;> rfl
theorem oneF_read (c : Nat) (A : List UInt8) (su : Nat) (m : Bool) : readC ⟨65536, (c : Int), false, false, 0⟩ (oneF A su m) [102] = if m = true then 0 else 30 := by
  unfold readC
  rw [oneF_look]
  cases m <;> rfl

theorem sure_append {w wr : World} {p : Nat} {v : Value} {A : List UInt8} {su c : Nat} {m : Bool} (h : SureAt w wr p v A su c m) (hE : ET w) (x y : UInt8) (hA : A.length + 2 ≤ 200) (hc : c < 1000) :
    Calls Tryd.prog 9 #[.pointer (some ⟨p, 0, none⟩), .string sF, .slice (some ⟨wr.heap.size, 0, none⟩) 2 2] (wr.alloc (.cells #[.int .u8 (x.toNat : Int), .int .u8 (y.toNat : Int)] 5)) fun e w' =>
      e = .returned .nilIface ∧ SureO w w' p v A [fl [102] (A ++ [x, y]) su] (c + 1) := by
  have hEr := h.at'.et hE
  have hmn := h.none
  obtain ⟨O, hd, hO, hr, hn, hf⟩ := h.at'
  have hb2 : Below wr.heap.size wr (wr.alloc (.cells #[.int .u8 (x.toNat : Int), .int .u8 (y.toNat : Int)] 5)) := (Below.refl _ _).alloc (Nat.le_refl _) _
  refine (dx_append sF _ [x, y] (hd.below hb2) (hEr.below hb2 hEr.lt) (by decide) ⟨by show (0 : Int) ≤ 65536; decide, by show (65536 : Int) ≤ 4611686018427387904; decide⟩ ⟨by show (0 : Int) ≤ (c : Int); omega, by show (c : Int) < 1000000000; omega⟩ (fun hh => by cases hh) (rbo_two wr x y O hd.lt)).mono ?_
  have e1 : sF.data.toList = [102] := rfl
  have e2 : ([x, y] : List UInt8).length = 2 := rfl
  rw [e1, e2, oneF_app A su c 2 m (fun hm => (hmn hm).1) hA, bs0, oneF_data A su m (fun hm => (hmn hm).1), oneF_sure A su m (fun hm => (hmn hm).2), oneF_put]
  rintro e w' ⟨v', O', rfl, he, hd', hf', hO'⟩
  simp only [if_true] at hd'
  refine ⟨?_, sure_step (wr := wr.alloc (.cells #[.int .u8 (x.toNat : Int), .int .u8 (y.toNat : Int)] 5)) hO (ownsRow_of_same hr (fun k hk => hb2.block k (row_blk hr hk).2)) hn (hf.trans (FrB.of_below hb2)) hd' hf' hO'⟩
  rcases he with ⟨rfl, _⟩ | ⟨hne, _⟩
  · rfl
  · exact absurd rfl hne

theorem sure_sync {w wr : World} {p : Nat} {v : Value} {A : List UInt8} {su c : Nat} {m : Bool} (h : SureAt w wr p v A su c m) (hE : ET w) (hc : c < 1000) :
    Calls Tryd.prog 12 #[.pointer (some ⟨p, 0, none⟩), .string sF] wr fun e w' =>
      (m = true ∧ e = .returned .nilIface ∧ SureAt w w' p v A A.length (c + 1) true) ∨ (m = false ∧ A = [] ∧ (∃ b, e = .returned (evW b) ∧ ErrW w' b 30) ∧ SureAt w w' p v A 0 c false) := by
  have hEr := h.at'.et hE
  have hmn := h.none
  obtain ⟨O, hd, hO, hr, hn, hf⟩ := h.at'
  refine (dx_sync sF hd hEr (by decide) ⟨by show (0 : Int) ≤ (c : Int); omega, by show (c : Int) < 1000000000; omega⟩ (fun hh => by cases hh)).mono ?_
  have e1 : sF.data.toList = [102] := rfl
  rw [e1, oneF_there, oneF_data A su m (fun hm => (hmn hm).1)]
  cases m with
  | true =>
    simp only [if_true, bs0]
    rintro e w' ⟨v', rfl, he, hd', hf'⟩
    refine .inl ⟨trivial, ?_, ⟨?_, Nat.le_refl _, fun hh => by cases hh⟩⟩
    · rcases he with ⟨rfl, _⟩ | ⟨hne, _⟩
      · rfl
      · exact absurd rfl hne
    · have e3 : repl (fl [102] A A.length) (oneF A su true) = oneF A A.length true := by simp [oneF, repl, fl]
      rw [e3] at hd'
      exact sure_step hO hr hn hf hd' hf' (fun k hk => .inl hk)
  | false =>
    obtain ⟨rfl, rfl⟩ := hmn rfl
    simp only [Bool.false_eq_true, if_false, bs30]
    rintro e w' ⟨v', rfl, he, hd', hf'⟩
    have h30 : ¬ (30 : Int) = 0 := by decide
    rw [if_neg h30] at hd'
    refine .inr ⟨trivial, trivial, ?_, ⟨sure_step hO hr hn hf hd' hf' (fun k hk => .inl hk), Nat.zero_le _, fun _ => ⟨rfl, rfl⟩⟩⟩
    rcases he with ⟨_, h0⟩ | ⟨_, b, hb, hw, _⟩
    · exact absurd h0 h30
    · exact ⟨b, by rw [hb], hw⟩

/-- How many are left behind a fall. -/
def leftK (A : List UInt8) (su : Nat) (k : Int) : Nat := su + min k.toNat (A.length - su)
theorem keep_k (W : World) (O : Nat → Prop) (hO : ∀ k, O k → k < W.heap.size) (k : Int) (hk : -9223372036854775808 ≤ k ∧ k ≤ 9223372036854775807) : KeepAt (W.alloc (.cells #[.int .i64 k] 3)) O (.slice (some ⟨W.heap.size, 0, none⟩) 1 1) [k] := by
  refine ⟨fun x hx => by simp at hx; subst hx; exact hk, .inr ⟨W.heap.size, 0, 1, by simp, fun hh => absurd (hO _ hh) (by omega), by simp, by unfold maxLen; omega, rfl, fun i x hi => ?_⟩⟩
  match i with
  | 0 => simp at hi; subst hi; simp
  | i + 1 => simp at hi
theorem sure_crash {w wr : World} {p : Nat} {v : Value} {A : List UInt8} {su c : Nat} {m : Bool} (h : SureAt w wr p v A su c m) (k : Int) (hk : -9223372036854775808 ≤ k ∧ k ≤ 9223372036854775807) :
    Calls Tryd.prog 22 #[.pointer (some ⟨p, 0, none⟩), .agg #[.slice (some ⟨wr.heap.size, 0, none⟩) 1 1]] (wr.alloc (.cells #[.int .i64 k] 3)) fun e w' =>
      e = .returned (.tuple #[]) ∧ SureO w w' p v A (oneF (A.take (leftK A su k)) (leftK A su k) m) c := by
  have hmn := h.none
  obtain ⟨O, hd, hO, hr, hn, hf⟩ := h.at'
  have hb2 : Below wr.heap.size wr (wr.alloc (.cells #[.int .i64 k] 3)) := (Below.refl _ _).alloc (Nat.le_refl _) _
  refine (dx_crash _ [k] (hd.below hb2) (keep_k wr O hd.lt k hk) (by simp) (fun e he => ?_)).mono ?_
  · unfold oneF at he
    split at he
    · simp at he; subst he; simp [fl]
    · cases he
  rintro e w' ⟨rfl, hd', hf'⟩
  refine ⟨rfl, sure_step (wr := wr.alloc (.cells #[.int .i64 k] 3)) hO (ownsRow_of_same hr (fun k hk => hb2.block k (row_blk hr hk).2)) hn (hf.trans (FrB.of_below hb2)) ?_ hf' (fun k hk => .inl hk)⟩
  have e3 : fallF [k] 0 (oneF A su m) = oneF (A.take (leftK A su k)) (leftK A su k) m := by
    cases m <;> rfl
  rw [e3] at hd'
  exact hd'
theorem row_short {w : World} {B : Nat} {v : Value} {d : List UInt8} (h : w.ownsRow B 5 1 v d.length (byteCells d)) (n : Nat) (hn : n ≤ d.length) : w.ownsRow B 5 1 (shorten v n) n (byteCells (d.take n)) := by
  have hlen : (d.take n).length = n := by rw [List.length_take]; omega
  refine ⟨by rw [Lib.byteCells_length, hlen]; omega, ?_⟩
  rcases h.2 with ⟨e1, e2⟩ | ⟨g, cap, cur, e1, h0, hc, h1, h2, h3, h4⟩
  · left
    have : n = 0 := by omega
    rw [this, e1]; exact ⟨rfl, rfl⟩
  · right
    refine ⟨g, cap, cur, by rw [e1]; rfl, h0, hc, by omega, h2, h3, ?_⟩
    have : cur.toList.take (n * 1) = (cur.toList.take (d.length * 1)).take n := by rw [List.take_take]; congr 1; omega
    rw [this, h4]
    unfold byteCells
    rw [List.map_take]
theorem sure_cut {w wr : World} {p : Nat} {v : Value} {A : List UInt8} {c : Nat} {m : Bool} {N : Nat} (h : SureO w wr p v A (oneF (A.take N) N m) c) (hN : N ≤ A.length) (hm : m = false → N = 0) : SureAt w wr p (shorten v N) (A.take N) N c m := by
  obtain ⟨O, hd, hO, hr, hn, hf⟩ := h
  have hlen : (A.take N).length = N := by rw [List.length_take]; omega
  refine ⟨⟨O, hd, hO, by rw [hlen]; exact row_short hr N hN, fun k hk => hn k (by rw [← ownBlock_shorten v N]; exact hk), hf⟩, by omega, fun hh => ?_⟩
  rw [hm hh]; exact ⟨rfl, rfl⟩
theorem sure_grow {w wr w1 w2 : World} {p : Nat} {v v' : Value} {A B : List UInt8} {su c : Nat} (h : SureO w wr p v A [fl [102] (A ++ B) su] c) (hsu : su ≤ A.length) (hb : Below wr.heap.size wr w1) (hrow : w2.ownsRow 0 5 1 v' (A.length + B.length) (byteCells A ++ byteCells B)) (hg : w1.grownBy w2 v.ownBlock) (hloc : v'.ownBlock = v.ownBlock ∨ v'.ownBlock = some w1.heap.size) : SureAt w w2 p v' (A ++ B) su c true := by
  have h1 := h.fr hb
  obtain ⟨O, hd, hO, hr, hn, hf⟩ := h1
  have hcells : byteCells (A ++ B) = byteCells A ++ byteCells B := by unfold byteCells; rw [List.map_append]
  have hz := hf.size
  refine ⟨⟨O, hd.fr hg.size (fun k hk => hg.block k (hd.lt k hk) (fun e => hn k e.symm hk)), hO, ownsRow_from ?_ (fun k hk => ?_), fun k hk hk' => ?_, hf.trans ⟨hg.size, fun k hk hl => hg.block k hl (fun e => ?_), hg.os, hg.tape, hg.output⟩⟩, by rw [List.length_append]; omega, fun hh => by cases hh⟩
  · rw [List.length_append, hcells]; exact hrow
  · rcases hloc with hl | hl
    · rw [hl] at hk; exact (row_blk hr hk).1
    · rw [hl] at hk; cases hk; exact hz
  · rcases hloc with hl | hl
    · rw [hl] at hk; exact hn k hk hk'
    · rw [hl] at hk; cases hk; exact absurd (hd.lt _ hk') (by omega)
  · have := (row_blk hr e.symm).1; omega
theorem sure_read {w wr : World} {p : Nat} {v : Value} {A : List UInt8} {su c : Nat} {m : Bool} (h : SureAt w wr p v A su c m) (hE : ET w) :
    Calls Tryd.prog 31 #[.pointer (some ⟨p, 0, none⟩), .string sF] wr fun e w' => SureAt w w' p v A su c m ∧
      ((m = true ∧ ∃ v', e = .returned (.tuple #[v', .nilIface]) ∧ w'.ownsRow wr.heap.size 5 1 v' A.length (byteCells A)) ∨ (m = false ∧ A = [] ∧ ∃ b, e = .returned (.tuple #[.slice none 0 0, evW b]) ∧ ErrW w' b 30)) := by
  have hEr := h.at'.et hE
  have hmn := h.none
  have H := h
  obtain ⟨O, hd, hO, hr, hn, hf⟩ := h.at'
  refine (dx_read sF hd hEr (by decide)).mono ?_
  have e1 : sF.data.toList = [102] := rfl
  rw [e1, oneF_read, oneF_data A su m (fun hm => (hmn hm).1)]
  rintro e w' ⟨hb, h1⟩
  refine ⟨H.fr hb, ?_⟩
  cases m with
  | true =>
    rcases h1 with ⟨h0, _⟩ | ⟨_, _, v', he, hr'⟩
    · exact absurd rfl h0
    · exact .inl ⟨rfl, v', he, hr'⟩
  | false =>
    rcases h1 with ⟨_, b, he, hw⟩ | ⟨h0, _⟩
    · exact .inr ⟨rfl, (hmn rfl).1, b, he, hw⟩
    · exact absurd h0 (by decide)
/-- Bytes at two rows of the same bytes. -/
theorem bytes_rows {w : World} {v v' : Value} {B B' : Nat} {l : List UInt8} (h : w.ownsRow B 5 1 v l.length (byteCells l)) (h' : w.ownsRow B' 5 1 v' l.length (byteCells l)) (hl : l.length ≤ 1000000) :
    Calls Tryd.prog 33 #[v, v'] w fun e w' => e = .returned (.bool true) ∧ w' = w := by
  have c1 := conv_row h hl
  have c2 := conv_row h' hl
  go_enter Tryd.func33, Tryd.ntmps33
  go_wp2
  go_ret
  exact ⟨rfl, rfl⟩
end Go.Proofs.YtkfogibjlbkmgaaDoor
