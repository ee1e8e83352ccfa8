/- SnapPlays: what its walk asks, round by round. -/
import Derived.Test.YtpminalccnhkjaaGreatDoorSXRound2
namespace Go.Proofs.YtpminalccnhkjaaGreatDoor
open Go.RowKit Go.Lib

/-- A step that came in. -/
structure GX where
  what : Int
  halt : Int
  i : Nat
  t : Nat
  da : Option Addr
  dk : Nat
  l : List UInt8
  ka : Option Addr
  kk : Nat
  ks : List Int
structure GX.ok (w : World) (x : GX) : Prop where
  what : -9223372036854775808 ≤ x.what ∧ x.what ≤ 9223372036854775807
  halt : -9223372036854775808 ≤ x.halt ∧ x.halt ≤ 9223372036854775807
  i : x.i < 18446744073709551616
  t : x.t < 18446744073709551616
  bl : x.l.length ≤ maxLen
  kl : x.ks.length ≤ maxLen
  bytes : x.l.length ≤ 1500 → RZ w (fun k => w.heap.size ≤ k) (.slice x.da x.l.length x.dk) x.l
  ks : Dk.KeepAt w (fun k => w.heap.size ≤ k) (.slice x.ka x.ks.length x.kk) x.ks
def GX.cells (x : GX) : List Value := [.int .i64 x.what, .int .i64 x.halt, .int .u64 (x.i : Int), .int .u64 (x.t : Int), .slice x.da x.l.length x.dk, .slice x.ka x.ks.length x.kk]
def GX.obj (x : GX) : Obj := .cells #[.int .i64 x.what, .int .i64 x.halt, .int .u64 (x.i : Int), .int .u64 (x.t : Int), .slice x.da x.l.length x.dk, .slice x.ka x.ks.length x.kk] 47
/-- The row of steps. -/
def InX (w : World) (a : Option Addr) (gs : List GX) : Prop := ∀ i x, gs[i]? = some x → GX.ok w x ∧ ∃ b off, a = some ⟨b, off, none⟩ ∧ b < w.heap.size ∧ ∀ j v, x.cells[j]? = some v → w.cell? ⟨b, off + i * 6 + j, none⟩ = some v
/-- Behind the Halt: what the copy of the bytes finds. -/
structure HF (w W2 : World) (p q bx m : Nat) (S : Dk.St) (o : Option Sn) (g : Option (List UInt8 × Nat)) (O : Nat → Prop) (A : Sn) (va : Value) (x : GX) : Prop where
  dx : Dk.DX W2 p S (FS o g) O
  hg : gOk g
  ho : oOk o
  hS : Okk S (m + 4)
  off : S.off = false
  oO : ∀ k, O k → w.heap.size ≤ k ∧ k ≠ q ∧ k ≠ bx
  bel : Below w.heap.size w W2
  sA : Sv W2 q (.int .u64 (A.1 : Int)) (.int .u64 (A.2.1 : Int)) va
  xv : W2.heap[bx]? = some x.obj
  dt : DT W2 O va A.2.2 (.slice x.da x.l.length x.dk) x.l (.slice x.ka x.ks.length x.kk) x.ks
theorem HF.cells {w W2 : World} {p q bx m : Nat} {S : Dk.St} {o : Option Sn} {g : Option (List UInt8 × Nat)} {O : Nat → Prop} {A : Sn} {va : Value} {x : GX} (h : HF w W2 p q bx m S o g O A va x) :
    W2.cell? ⟨bx, 0, none⟩ = some (.int .i64 x.what) ∧ W2.cell? ⟨bx, 1, none⟩ = some (.int .i64 x.halt) ∧ W2.cell? ⟨bx, 2, none⟩ = some (.int .u64 (x.i : Int)) ∧ W2.cell? ⟨bx, 3, none⟩ = some (.int .u64 (x.t : Int)) ∧ W2.cell? ⟨bx, 4, none⟩ = some (.slice x.da x.l.length x.dk) ∧ W2.cell? ⟨bx, 5, none⟩ = some (.slice x.ka x.ks.length x.kk) :=
  ⟨(Dk.cellB h.xv 0).1, (Dk.cellB h.xv 1).1, (Dk.cellB h.xv 2).1, (Dk.cellB h.xv 3).1, (Dk.cellB h.xv 4).1, (Dk.cellB h.xv 5).1⟩
theorem obj_cells {W : World} {bx : Nat} {x : GX} (h : W.heap[bx]? = some x.obj) :
    W.cell? ⟨bx, 0, none⟩ = some (.int .i64 x.what) ∧ W.cell? ⟨bx, 1, none⟩ = some (.int .i64 x.halt) ∧ W.cell? ⟨bx, 2, none⟩ = some (.int .u64 (x.i : Int)) ∧ W.cell? ⟨bx, 3, none⟩ = some (.int .u64 (x.t : Int)) ∧ W.cell? ⟨bx, 4, none⟩ = some (.slice x.da x.l.length x.dk) ∧ W.cell? ⟨bx, 5, none⟩ = some (.slice x.ka x.ks.length x.kk) :=
  ⟨(Dk.cellB h 0).1, (Dk.cellB h 1).1, (Dk.cellB h 2).1, (Dk.cellB h 3).1, (Dk.cellB h 4).1, (Dk.cellB h 5).1⟩
/-- The round's beginning: the step is copied. -/
theorem hf_new {w wr : World} {p q m n dk : Nat} {o : Option Sn} {da : Option Addr} {x : GX} (h : HD w wr p q (m + 4) o da n dk) (hx : GX.ok w x) (hl : x.l.length ≤ 1500) :
    ∃ S g O, S.halting = false ∧ HF w (wr.alloc x.obj) p q wr.heap.size m S o g O (nowS o) (.slice da n dk) x := by
  obtain ⟨S, g, O, h1, h2, h3, h4, h5, h6, h7, h8, h9, h10, h11⟩ := h
  have hb : Below wr.heap.size wr (wr.alloc x.obj) := below_alloc _ (Nat.le_refl _)
  refine ⟨S, g, O, h6, h1.below hb, h2, h3, h4, h5, fun k hk => ⟨(h7 k hk).1, (h7 k hk).2, Nat.ne_of_lt (h1.lt k hk)⟩, bt h8 hb, h10.below hb h10.lt, (MapKept.heap_alloc wr _).1, ?_⟩
  have hO : ∀ k, O k → w.heap.size ≤ k := fun k hk => (h7 k hk).1
  have hw := bt h8 hb
  refine ⟨RZ.re (.inl h11) (dk_below hb) (fun k hk => .inl (.inl hk)), RZ.re (hx.bytes hl) (dk_below hw) (fun k hk => .inl (hO k hk)), keep_re hx.ks (dk_below hw) (fun k hk => .inl (hO k hk))⟩
/-- The Halt. -/
theorem hf_halt {w W1 : World} {p q bx m : Nat} {S : Dk.St} {o : Option Sn} {g : Option (List UInt8 × Nat)} {O : Nat → Prop} {A : Sn} {va : Value} {x : GX} (h : HF w W1 p q bx m S o g O A va x) (hx : GX.ok w x) :
    Calls Tryz.prog 15 #[.pointer (some ⟨p, 0, none⟩), .int .i64 x.halt] W1 fun e W2 => e = .returned (.tuple #[]) ∧ ∃ S2, HF w W2 p q bx m S2 o g O A va x := by
  refine (Dk.dx_halt x.halt h.dx).mono ?_
  rintro e W2 ⟨rfl, hd, hf⟩
  refine ⟨rfl, _, hd, h.hg, h.ho, ⟨h.hS.1, h.hS.2.1, h.hS.2.2.1, fun hh => ?_⟩, h.off, h.oO, below_fro h.bel hf (fun k hk => (h.oO k hk).1) (Nat.le_refl _), h.sA.kept hf (fun hh => (h.oO q hh).2.1 rfl), blk_kept h.xv hf (fun hh => (h.oO bx hh).2.2 rfl), h.dt.re hf (fun k hk => .inl hk)⟩
  have h0 := of_decide_eq_true hh
  exact ⟨h0, by show x.halt < 9223372036854775808; have := hx.halt.2; omega⟩
theorem own_set {W : World} {B : Nat} {T : TypeId} {v : Value} {n : Nat} {xs : List Value} {b j : Nat} {u : Value} (h : W.ownsRow B T 1 v n xs) (hb : v.ownBlock ≠ some b) : (W.setCell ⟨b, j, none⟩ u).ownsRow B T 1 v n xs := by
  rcases h.2 with ⟨h1, h2⟩ | ⟨gg, cap, cur, h1, hB, hc, rest⟩
  · exact ⟨h.1, .inl ⟨h1, h2⟩⟩
  · exact ⟨h.1, .inr ⟨gg, cap, cur, h1, hB, (Below.heap_setCell _ _ _ _ (fun e => hb (by rw [h1]; show some gg = some b; rw [e]))).trans hc, rest⟩⟩
/-- The bytes that are lent. -/
theorem sf_make {w W2 w4 : World} {p q bx m : Nat} {S : Dk.St} {o : Option Sn} {g : Option (List UInt8 × Nat)} {O : Nat → Prop} {A : Sn} {va v4 : Value} {x : GX} (h : HF w W2 p q bx m S o g O A va x) (hx : GX.ok w x) (hl : x.l.length ≤ 1500)
    (ho4 : w4.ownsRow 0 5 1 v4 (0 + x.l.length) ([] ++ byteCells x.l)) (hg4 : (W2.alloc (.cells #[.int .u64 (x.i : Int), .int .u64 (x.t : Int), .slice x.da x.l.length x.dk] 34)).grownBy w4 (Value.slice none 0 0).ownBlock)
    (hl4 : v4.ownBlock = (Value.slice none 0 0).ownBlock ∨ v4.ownBlock = some (W2.alloc (.cells #[.int .u64 (x.i : Int), .int .u64 (x.t : Int), .slice x.da x.l.length x.dk] 34)).heap.size) :
    ∃ a4 k4, v4 = .slice a4 x.l.length k4 ∧ Sv w4 W2.heap.size (.int .u64 (x.i : Int)) (.int .u64 (x.t : Int)) (.slice x.da x.l.length x.dk) ∧ W2.cell? ⟨bx, 4, none⟩ = W2.cell? ⟨bx, 4, none⟩ ∧
      SF w (w4.setCell ⟨W2.heap.size, 2, none⟩ (.slice a4 x.l.length k4)) p q bx W2.heap.size m x.i x.t x.l.length k4 S o g O A va (.slice x.da x.l.length x.dk) (.slice x.ka x.ks.length x.kk) x.obj x.l x.ks a4 := by
  rw [Nat.zero_add, List.nil_append] at ho4
  obtain ⟨a4, k4, rfl⟩ := Dk.own_sl ho4
  have hz : (W2.alloc (.cells #[.int .u64 (x.i : Int), .int .u64 (x.t : Int), .slice x.da x.l.length x.dk] 34)).heap.size = W2.heap.size + 1 := by simp
  have hsv := Sv.new W2 (.int .u64 (x.i : Int)) (.int .u64 (x.t : Int)) (.slice x.da x.l.length x.dk)
  have hbA : Below W2.heap.size W2 (W2.alloc (.cells #[.int .u64 (x.i : Int), .int .u64 (x.t : Int), .slice x.da x.l.length x.dk] 34)) := below_alloc _ (Nat.le_refl _)
  have hb3 : Below (W2.alloc (.cells #[.int .u64 (x.i : Int), .int .u64 (x.t : Int), .slice x.da x.l.length x.dk] 34)).heap.size (W2.alloc (.cells #[.int .u64 (x.i : Int), .int .u64 (x.t : Int), .slice x.da x.l.length x.dk] 34)) w4 := ⟨hg4.os, hg4.tape, hg4.output, hg4.size, fun k hk => hg4.block k hk (by simp [Value.ownBlock])⟩
  have hsv4 := hsv.below hb3 hsv.lt
  have hb4 : Below W2.heap.size W2 w4 := bt hbA hb3
  have hown : ∀ k, (Value.slice a4 x.l.length k4).ownBlock = some k → k = W2.heap.size + 1 := fun k hk => by
    rcases hl4 with e | e
    · rw [e] at hk; simp [Value.ownBlock] at hk
    · rw [hz] at e; rw [e] at hk; injection hk with hk; exact hk.symm
  have hb5 : Below W2.heap.size W2 (w4.setCell ⟨W2.heap.size, 2, none⟩ (.slice a4 x.l.length k4)) := hb4.setCell (p := ⟨W2.heap.size, 2, none⟩) (Nat.le_refl _) _
  have hqz := h.sA.lt
  have hxz := (Array.getElem?_eq_some_iff.1 h.xv).1
  have hwz := h.bel.size
  refine ⟨a4, k4, rfl, hsv4, rfl, h.dx.below hb5, h.hg, h.ho, h.hS, h.off, fun k hk => ⟨(h.oO k hk).1, (h.oO k hk).2.1, (h.oO k hk).2.2, Nat.ne_of_lt (h.dx.lt k hk)⟩, bt h.bel hb5, h.sA.below hb5 hqz, (hb5.block bx hxz).trans h.xv, Dk.heap_setCell_at hsv4 2 _, own_set ho4 (fun hh => by have := hown _ hh; omega), fun k hk => ?_, ?_, rfl, hx.i, hx.t, hl⟩
  · have e := hown k hk
    exact ⟨fun hh => by have := h.dx.lt k hh; omega, by omega, by omega, by omega, by omega⟩
  · exact h.dt.re (dk_below hb5) (fun k hk => hk.elim .inl (fun hh => .inr (by have := hown k hh; omega)))
/-- Crash and Load, in the walk's letters. -/
theorem tail_any {w W8 : World} {p q bx m a1 a2 b1 b2 c1 c2 : Nat} {la lb lc : List UInt8} {o1 : Option Sn} {va vb : Value} {x : GX} {ok sb sn : Bool} (h : RST w W8 p q bx m o1 (a1, a2, la) va x.obj (.slice x.da x.l.length x.dk) x.l (.slice x.ka x.ks.length x.kk) x.ks) (ho : oOk o1) (hq : w.heap.size ≤ q) (hE : ET w) (hT : ST w) (hkl : x.ks.length ≤ 80)
    (hB : ((b1, b2, lb) = (a1, a2, la) ∧ vb = va) ∨ (lb = x.l ∧ vb = .slice x.da x.l.length x.dk)) (hC : nowS o1 = (c1, c2, lc)) (hok : o1.isSome = ok) (hsb : decide (((c1, c2, lc) : Sn) = (b1, b2, lb)) = sb) (hsn : decide (((c1, c2, lc) : Sn) = (a1, a2, la)) = sn) :
    Calls Tryz.prog 11 #[.pointer (some ⟨p, 0, none⟩), .agg #[.slice x.ka x.ks.length x.kk]] (W8.alloc (.cells #[.int .u64 (b1 : Int), .int .u64 (b2 : Int), vb] 34)) fun e W10 => e = .returned (.tuple #[]) ∧ Hid (Calls Tryz.prog 12 #[.pointer (some ⟨p, 0, none⟩)] W10 fun e W11 => ∃ sa sn' sk, e = .returned (.tuple #[.agg #[.int .u64 (c1 : Int), .int .u64 (c2 : Int), .slice sa sn' sk], .bool ok, .nilIface]) ∧
      Hid (∀ W, Below (W11.alloc (.cells #[.int .u64 (c1 : Int), .int .u64 (c2 : Int), .slice sa sn' sk] 34)).heap.size (W11.alloc (.cells #[.int .u64 (c1 : Int), .int .u64 (c2 : Int), .slice sa sn' sk] 34)) W →
        Sv W q (.int .u64 (a1 : Int)) (.int .u64 (a2 : Int)) va ∧ Sv W W8.heap.size (.int .u64 (b1 : Int)) (.int .u64 (b2 : Int)) vb ∧ Sv W W11.heap.size (.int .u64 (c1 : Int)) (.int .u64 (c2 : Int)) (.slice sa sn' sk) ∧
        Hid (Calls Tryz.prog 18 #[.agg #[.int .u64 (c1 : Int), .int .u64 (c2 : Int), .slice sa sn' sk], .agg #[.int .u64 (b1 : Int), .int .u64 (b2 : Int), vb]] W fun e W' => e = .returned (.bool sb) ∧ Below W.heap.size W W') ∧
        Hid (Calls Tryz.prog 18 #[.agg #[.int .u64 (c1 : Int), .int .u64 (c2 : Int), .slice sa sn' sk], .agg #[.int .u64 (a1 : Int), .int .u64 (a2 : Int), va]] W fun e W' => e = .returned (.bool sn) ∧ Below W.heap.size W W') ∧
        Hid (HD w (((W.setCell ⟨q, 0, none⟩ (.int .u64 (c1 : Int))).setCell ⟨q, 1, none⟩ (.int .u64 (c2 : Int))).setCell ⟨q, 2, none⟩ (.slice sa sn' sk)) p q m o1 sa sn' sk))) := by
  have H := rst_next (B := (b1, b2, lb)) (vb := vb) h ho hq hE hT hkl hB
  refine H.mono ?_
  rintro e W10 ⟨rfl, H2⟩
  refine ⟨rfl, (unhide H2).mono ?_⟩
  rintro e W11 ⟨sa, sn', sk, rfl, HL⟩
  unfold LD at HL
  rw [hC, hok] at *
  rw [hsb, hsn] at HL
  exact ⟨sa, sn', sk, rfl, HL⟩
end Go.Proofs.YtpminalccnhkjaaGreatDoor
