/- Contract of package wire's writer of one value. -/
import Derived.Test.YthphadbcebeoaaaGreatDoorJValsVals2Read3TakeTextVRVal
import Derived.Deep.QuietTactic
import Derived.BigQuiet
import Derived.WalkSmall
import Derived.Test.YthphadbcebeoaaaGreatDoorJReaderUptoSum
import Derived.Lib.SlBytesConst
import Derived.Test.YthphadbcebeoaaaGreatDoorJPlainDecDDef
namespace Go.Proofs.YthphadbcebeoaaaGreatDoor
open Go.RowKit Go.Lib

theorem WS.alloc {w : World} {p : Nat} {s : Option (List UInt8)} (h : WS w p s) (o : Obj) : WS (w.alloc o) p s := by
  have hp := h.lt
  cases s with
  | none =>
    obtain ⟨f0, f1, b, pl, h0, h1, hb, he⟩ := h
    exact ⟨by rw [World.frozen?_alloc_old _ _ _ (Nat.ne_of_lt hp)]; exact f0, by rw [World.frozen?_alloc_old _ _ _ (Nat.ne_of_lt hp)]; exact f1, b, pl, (World.cell?_alloc_lt _ _ ⟨p, 0, none⟩ hp).trans h0, (World.cell?_alloc_lt _ _ ⟨p, 1, none⟩ hp).trans h1, hb, he.alloc o⟩
  | some l =>
    obtain ⟨f0, f1, v, h0, h1, ho⟩ := h
    exact ⟨by rw [World.frozen?_alloc_old _ _ _ (Nat.ne_of_lt hp)]; exact f0, by rw [World.frozen?_alloc_old _ _ _ (Nat.ne_of_lt hp)]; exact f1, v, (World.cell?_alloc_lt _ _ ⟨p, 0, none⟩ hp).trans h0, (World.cell?_alloc_lt _ _ ⟨p, 1, none⟩ hp).trans h1, ho.alloc o⟩

/-- What a writer has behind a value. -/
def putVal (g : GV) (s : Option (List UInt8)) : Option (List UInt8) := if g.may then s.map (· ++ g.bytes) else none
theorem bind_len {s : Option (List UInt8)} {x : List UInt8} (h : ∀ l, s = some l → l.length ≤ 800000000) (hx : x.length ≤ 100) : ∀ l, s.map (· ++ x) = some l → l.length ≤ 900000000 := by
  intro l e
  cases s with
  | none => cases e
  | some l0 => simp at e; subst e; have := h l0 rfl; simp; omega
theorem uv_small (x : Nat) (h : x < 18446744073709551616) : (uvarint x).length ≤ 100 := Nat.le_trans (uvarint_length64 h) (by decide)
theorem map_map (s : Option (List UInt8)) (x y : List UInt8) : (s.map (· ++ x)).map (· ++ y) = s.map (· ++ (x ++ y)) := by
  cases s <;> simp

end Go.Proofs.YthphadbcebeoaaaGreatDoor
/- Contracts of package wire's writer of rows: list, row, done, PutRow. -/
namespace Go.Proofs.YthphadbcebeoaaaGreatDoor
open Go.RowKit Go.Lib

/-- A slice of values that reads as these. -/
def RV (w : World) (B : Nat) (v : Value) (gs : List GV) : Prop :=
  gs.length * 32 ≤ 140737488351232 ∧ (∀ g ∈ gs, g.ok) ∧ ((v = .slice none 0 0 ∧ gs = []) ∨
    ∃ b off cap, b < B ∧ v = .slice (some ⟨b, off, none⟩) gs.length cap ∧ ∀ i g, gs[i]? = some g → w.cell? ⟨b, off + i * 3, none⟩ = some (.int .i64 g.kind) ∧ w.cell? ⟨b, off + i * 3 + 1, none⟩ = some (.int .i64 g.int) ∧ w.cell? ⟨b, off + i * 3 + 2, none⟩ = some (.string g.text))

def putVals (gs : List GV) (s : Option (List UInt8)) : Option (List UInt8) := gs.foldl (fun s g => putVal g s) s
theorem putVal_none (g : GV) : putVal g none = none := by unfold putVal; split <;> rfl
theorem putVals_none (gs : List GV) : putVals gs none = none := by
  induction gs with
  | nil => rfl
  | cons g r ih => simp only [putVals, List.foldl_cons, putVal_none]; exact ih
theorem putVals_snoc (gs : List GV) (s : Option (List UInt8)) (k : Nat) (g : GV) (h : gs[k]? = some g) : putVals (gs.take (k + 1)) s = putVal g (putVals (gs.take k) s) := by
  rw [List.take_add_one, h, putVals, List.foldl_append]; rfl
theorem putVals_split (gs : List GV) (s : Option (List UInt8)) (k : Nat) : putVals gs s = putVals (gs.drop k) (putVals (gs.take k) s) := by
  rw [putVals, putVals, putVals, ← List.foldl_append, List.take_append_drop]
theorem may_len {g : GV} (h : g.may = true) (hg : g.ok) : g.bytes.length ≤ 100 := by
  obtain ⟨k, n, t⟩ := g
  obtain ⟨h1, h2, h3⟩ := hg
  dsimp only at h1 h2 h3
  by_cases hk0 : k = 0
  · subst hk0; simp [GV.bytes]; exact uv_small 0 (by decide)
  · by_cases hk1 : k = 1
    · subst hk1
      have hb : n = 0 ∨ n = 1 := by simp [GV.may] at h; exact h.1
      have a1 := uvarint_length64 (x := 1) (by decide)
      have a0 := uvarint_length64 (x := 0) (by decide)
      rcases hb with rfl | rfl <;> simp [GV.bytes] <;> omega
    · by_cases hk2 : k = 2
      · subst hk2
        have a1 := uvarint_length64 (x := 2) (by decide)
        have a0 := uvarint_length64 (zigzag_lt h1 (by omega : n ≤ 9223372036854775807))
        simp [GV.bytes]; omega
      · have b0 : (k == 0) = false := by simp [hk0]
        have b1 : (k == 1) = false := by simp [hk1]
        have b2 : (k == 2) = false := by simp [hk2]
        simp [GV.may, b0, b1, b2] at h
        obtain ⟨⟨⟨rfl, _⟩, h40⟩, _⟩ := h
        have a1 := uvarint_length64 (x := 3) (by decide)
        have a0 := uvarint_length64 (x := t.size) (by omega)
        simp [GV.bytes]; omega
theorem putVals_len {gs : List GV} (hg : ∀ g ∈ gs, g.ok) {l0 : List UInt8} : ∀ l, putVals gs (some l0) = some l → l.length ≤ l0.length + 100 * gs.length := by
  induction gs generalizing l0 with
  | nil => intro l h; simp [putVals] at h; subst h; simp
  | cons g r ih =>
    intro l h
    have e : putVals (g :: r) (some l0) = putVals r (putVal g (some l0)) := rfl
    rw [e] at h
    unfold putVal at h
    by_cases hm : g.may = true
    · rw [if_pos hm] at h
      have := ih (fun g hg' => hg g (List.mem_cons_of_mem _ hg')) l h
      have hb := may_len hm (hg g (List.mem_cons_self))
      simp at this ⊢; omega
    · rw [if_neg hm, putVals_none] at h; cases h

/-- What a writer has behind the number of a list. -/
def putLen (n : Nat) (most : Int) (s : Option (List UInt8)) : Option (List UInt8) := if (n : Int) ≤ most then s.map (· ++ uvarint n) else none

end Go.Proofs.YthphadbcebeoaaaGreatDoor
/- Contract of wire.PutRow. -/
namespace Go.Proofs.YthphadbcebeoaaaGreatDoor
open Go.RowKit Go.Lib

/-- What a writer's done tells. -/
def DonePost (s : Option (List UInt8)) (B : Nat) (w : World) (e : Ending) (w' : World) : Prop :=
  match s with
  | some l => ∃ a k, e = .returned (.tuple #[.slice a l.length k, .nilIface]) ∧ w'.ownsRow B 5 1 (.slice a l.length k) l.length (byteCells l) ∧ Below B w w'
  | none => ∃ (b : Nat) (pl : I6), e = .returned (.tuple #[.slice none 0 0, ev b]) ∧ B ≤ b ∧ ErrAt w' b pl 20 ∧ Below B w w'

set_option maxHeartbeats 1600000 in
theorem wdone_any (p : Nat) (s : Option (List UInt8)) (w : World) (hw : WS w p s) :
    Calls Tryz.prog 99 #[.pointer (some ⟨p, 0, none⟩)] w fun e w' => DonePost s (p + 1) w e w' := by
  cases s with
  | none =>
    obtain ⟨f0, f1, b, pl, h0, h1, hb, he⟩ := hw
    have HE := hide he
    clear he
    go_enter Tryz.func99, Tryz.ntmps99
    go_wp2
    go_quiet (fail)
    go_wp2
    go_ret2
    exact ⟨b, pl, rfl, hb, unhide HE, below_drewN (Below.refl _ _) _⟩
  | some l =>
    obtain ⟨f0, f1, v, h0, h1, ho⟩ := hw
    obtain ⟨a, k, rfl⟩ := own_slice ho
    have HO := hide ho
    clear ho
    go_enter Tryz.func99, Tryz.ntmps99
    go_wp2
    go_ret2
    exact ⟨a, k, rfl, unhide HO, Below.refl _ _⟩

theorem own_weaker {w : World} {B B' : Nat} {e : TypeId} {sz : Nat} {v : Value} {n : Nat} {xs : List Value} (hB : B' ≤ B) (h : w.ownsRow B e sz v n xs) : w.ownsRow B' e sz v n xs := by
  obtain ⟨h1, h2 | ⟨g, cap, cur, h3, h4, h5⟩⟩ := h
  · exact ⟨h1, .inl h2⟩
  · exact ⟨h1, .inr ⟨g, cap, cur, h3, by omega, h5⟩⟩
theorem WS.new (w : World) : WS (w.alloc (.cells #[.slice none 0 0, .nilIface] 181)) w.heap.size (some []) := by
  refine ⟨by simp, by simp, .slice none 0 0, by simp, by simp, World.ownsRow_nil _ _ _ _⟩

end Go.Proofs.YthphadbcebeoaaaGreatDoor
/- Contracts of the reader's lists of values, and of wire.Row. -/
namespace Go.Proofs.YthphadbcebeoaaaGreatDoor
open Go.RowKit Go.Lib

def gvCells (g : GV) : List Value := [.int .i64 g.kind, .int .i64 g.int, .string g.text]
def gvsCells (gs : List GV) : List Value := gs.flatMap gvCells
theorem gvsCells_length (gs : List GV) : (gvsCells gs).length = gs.length * 3 := by
  induction gs with
  | nil => rfl
  | cons g r ih => simp [gvsCells, gvCells] at ih ⊢; omega
theorem gvsCells_snoc (gs : List GV) (g : GV) : gvsCells (gs ++ [g]) = gvsCells gs ++ gvCells g := by simp [gvsCells]

/-- Reading n values: those that were read, and where the reader is; behind a fault none. -/
def rdVals (l : List UInt8) : Nat → Except Nat Nat → List GV × Except Nat Nat
  | 0, s => ([], s)
  | n + 1, s => match (rdVals l n s).2 with
    | .error c => ([], .error c)
    | .ok a => match (rdVal l (.ok a)).2 with
      | .error c => ([], .error c)
      | .ok b => ((rdVals l n s).1 ++ [(rdVal l (.ok a)).1], .ok b)
/-- Reading a row. -/
def rdRow (l : List UInt8) (s : Except Nat Nat) : List GV × Except Nat Nat :=
  match (rdBetween l 0 64 s).2 with
  | .error c => ([], .error c)
  | .ok a => rdVals l (rdBetween l 0 64 s).1.toNat (.ok a)
theorem rdVals_err {l : List UInt8} {s : Except Nat Nat} {c n m : Nat} (h : (rdVals l n s).2 = .error c) (hm : n ≤ m) : rdVals l m s = ((rdVals l m s).1, .error c) ∧ (rdVals l m s).2 = .error c := by
  induction m with
  | zero => have : n = 0 := by omega
            subst this; exact ⟨Prod.ext rfl h, h⟩
  | succ m ih =>
    by_cases e : n = m + 1
    · subst e; exact ⟨Prod.ext rfl h, h⟩
    · have := (ih (by omega)).2
      simp [rdVals, this]

theorem three_new (w : World) (g : GV) (e : TypeId) : ∀ j v, (gvCells g)[j]? = some v → (w.alloc (.cells #[.int .i64 g.kind, .int .i64 g.int, .string g.text] e)).cell? ((⟨w.heap.size, 0, none⟩ : Addr).add j) = some v := by
  intro j v hj
  match j, hj with
  | 0, hj => simp [gvCells] at hj; subst hj; simp [Addr.add]
  | 1, hj => simp [gvCells] at hj; subst hj; simp [Addr.add]
  | 2, hj => simp [gvCells] at hj; subst hj; simp [Addr.add]
theorem three_cell (g : GV) : ∀ u ∈ gvCells g, u.oneCell' = true := by
  intro u hu
  simp [gvCells] at hu
  rcases hu with rfl | rfl | rfl <;> rfl

theorem own_fq {w w' : World} {p : Nat} {e : TypeId} {sz : Nat} {v : Value} {n : Nat} {xs : List Value} (h : w.ownsRow (p + 1) e sz v n xs) (hf : Fq p w w') : w'.ownsRow (p + 1) e sz v n xs := by
  obtain ⟨h1, h2 | ⟨g, cap, cur, h3, h4, h5, h6⟩⟩ := h
  · exact ⟨h1, .inl h2⟩
  · have hg : g < w.heap.size := by
      rcases Nat.lt_or_ge g w.heap.size with h' | h'
      · exact h'
      · rw [Array.getElem?_eq_none h'] at h5; cases h5
    exact ⟨h1, .inr ⟨g, cap, cur, h3, h4, (hf.2 g hg (by omega)).trans h5, h6⟩⟩
theorem RS.ok_below {w w' : World} {p a : Nat} {l : List UInt8} (h : RS w p l (.ok a)) (hb : Below (p + 1) w w') : RS w' p l (.ok a) := by
  obtain ⟨hE, hG, f1, f2, ⟨v, h0, hv⟩, g1, g2, g3⟩ := h
  exact ⟨hE.below hb (by omega), hG, (hb.frozen (p := ⟨p, 1, none⟩) (by simp)).trans f1, (hb.frozen (p := ⟨p, 2, none⟩) (by simp)).trans f2, ⟨v, (hb.cell (p := ⟨p, 0, none⟩) (by simp)).trans h0, hv.below hb (by omega)⟩, g1, (hb.cell (p := ⟨p, 1, none⟩) (by simp)).trans g2, (hb.cell (p := ⟨p, 2, none⟩) (by simp)).trans g3⟩

theorem RS.new (w : World) (v : Value) (l : List UInt8) (hE : ET w) (hv : RBp w w.heap.size v l) : RS (w.alloc (.cells #[v, .int .i64 0, .nilIface] 193)) w.heap.size l (.ok 0) := by
  refine ⟨hE.alloc _, hE.lt, by simp, by simp, ⟨v, by simp, hv.below ((Below.refl _ _).alloc (Nat.le_refl _) _) (Nat.le_refl _)⟩, Nat.zero_le _, by simp, by simp⟩

end Go.Proofs.YthphadbcebeoaaaGreatDoor
/- Contract of the statements' own look, known: it answers true. -/
namespace Go.Proofs.YthphadbcebeoaaaGreatDoor
open Go.RowKit Go.Lib

theorem ST.lt {w : World} (h : ST w) : 1 < w.heap.size := lt_of_cell (h 0 (by decide))
theorem ST.below {w w' : World} {B : Nat} (h : ST w) (hb : Below B w w') (hB : 1 < B) : ST w' := fun i hi =>
  (hb.cell (p := ⟨1, i, none⟩) hB).trans (h i hi)

theorem row_known : (putVals [⟨2, 5, ⟨#[]⟩⟩, ⟨0, 0, ⟨#[]⟩⟩] (putLen 2 64 (some []))) = some [2, 2, 10, 0] := by
  have u0 : uvarint 0 = [0] := uvarint_small (by decide)
  have u2 : uvarint 2 = [2] := uvarint_small (by decide)
  have u10 : uvarint 10 = [10] := uvarint_small (by decide)
  have hz : zigzag 5 = 10 := by decide
  have m1 : GV.may ⟨2, 5, ⟨#[]⟩⟩ = true := by decide +kernel
  have m2 : GV.may ⟨0, 0, ⟨#[]⟩⟩ = true := by decide +kernel
  simp [putVals, putLen, putVal, m1, m2, GV.bytes, u0, u2, u10, hz]
theorem short_known : (rdRow [2] (.ok 0)).2 = .error 22 := by kernel_rfl
theorem crc_known : crc [49, 50, 51, 52, 53, 54, 55, 56, 57] = 3421780262 := by decide +kernel

theorem rb_own {w : World} {B : Nat} {v : Value} {l : List UInt8} (h : w.ownsRow B 5 1 v l.length (byteCells l)) (hl : l.length ≤ 1000000000000) : RBp w w.heap.size v l := by
  have hh := h
  obtain ⟨h1, ⟨h2, h2'⟩ | ⟨g, cap, cur, h3, h4, h5, h6, h7, h8, h9⟩⟩ := h
  · exact ⟨hl, .inl ⟨h2, List.eq_nil_of_length_eq_zero h2'⟩⟩
  · have hg : g < w.heap.size := by
      rcases Nat.lt_or_ge g w.heap.size with h' | h'
      · exact h'
      · rw [Array.getElem?_eq_none h'] at h5; cases h5
    refine ⟨hl, .inr ⟨g, 0, cap, hg, h6, h7, h3, fun i hi => ?_⟩⟩
    have e2 : (byteCells l)[i]? = some (.int .u8 ((l.getD i 0).toNat : Int)) := by
      simp [byteCells, hi]
    have := hh.cells (g := g) (by rw [h3]; rfl) i _ e2
    have e3 : (⟨g, 0, none⟩ : Addr).add i = ⟨g, 0 + i, none⟩ := by unfold Addr.add; split <;> simp_all
    rw [e3] at this; exact this
theorem rb_later {w w' : World} {B B' : Nat} {v : Value} {l : List UInt8} (h : RBp w B v l) (hb : Below B w w') (hB : B ≤ B') : RBp w' B' v l := by
  obtain ⟨h1, h2 | ⟨b, off, cap, hbB, hc, hm, rfl, hcell⟩⟩ := h
  · exact ⟨h1, .inl h2⟩
  · exact ⟨h1, .inr ⟨b, off, cap, by omega, hc, hm, rfl, fun i hi => (hb.cell (p := ⟨b, off + i, none⟩) hbB).trans (hcell i hi)⟩⟩

theorem k_sum (w : World) (hT : ST w) : Calls Tryz.prog 92 #[.slice (some ⟨w.heap.size, 0, none⟩) 9 9] (w.alloc (.cells #[.int .u8 49, .int .u8 50, .int .u8 51, .int .u8 52, .int .u8 53, .int .u8 54, .int .u8 55, .int .u8 56, .int .u8 57] 5 (9, 10))) fun e w' =>
    e = .returned (.int .u32 3421780262) ∧ Below w.heap.size w w' := by
  have hv : RBp (w.alloc (.cells #[.int .u8 49, .int .u8 50, .int .u8 51, .int .u8 52, .int .u8 53, .int .u8 54, .int .u8 55, .int .u8 56, .int .u8 57] 5 (9, 10))) (w.heap.size + 1) (.slice (some ⟨w.heap.size, 0, none⟩) 9 9) [49, 50, 51, 52, 53, 54, 55, 56, 57] := by
    refine ⟨by decide, .inr ⟨w.heap.size, 0, 9, by simp, by decide, by decide, rfl, ?_⟩⟩
    intro i hi
    have hi' : i < 9 := by simpa using hi
    rw [World.cell?_alloc_mark]
    match i, hi' with
    | 0, _ => rfl
    | 1, _ => rfl
    | 2, _ => rfl
    | 3, _ => rfl
    | 4, _ => rfl
    | 5, _ => rfl
    | 6, _ => rfl
    | 7, _ => rfl
    | 8, _ => rfl
  have hb := (Below.refl w.heap.size w).alloc (Nat.le_refl _) (.cells #[.int .u8 49, .int .u8 50, .int .u8 51, .int .u8 52, .int .u8 53, .int .u8 54, .int .u8 55, .int .u8 56, .int .u8 57] 5 (9, 10))
  refine (sum_any _ _ _ _ hv (hT.below hb hT.lt)).mono ?_
  rintro e w' ⟨rfl, rfl⟩
  rw [crc_known]
  exact ⟨rfl, hb⟩

end Go.Proofs.YthphadbcebeoaaaGreatDoor
/- Plain facts on the bytes of a number: how many, which bear the mark, and that they are read as it. -/
namespace Go.Proofs.YthphadbcebeoaaaGreatDoor
open Go.RowKit Go.Lib

/-- How many bits a number has. -/
def nbits (n : Nat) : Nat := if n = 0 then 0 else Nat.log2 n + 1
theorem nbits_zero : nbits 0 = 0 := rfl
theorem nbits_pos {n : Nat} (h : 0 < n) : nbits n = nbits (n / 2) + 1 := by
  unfold nbits
  rw [if_neg (by omega), Nat.log2_def]
  by_cases h2 : 2 ≤ n
  · rw [if_pos h2, if_neg (by omega)]
  · rw [if_neg h2, if_pos (by omega)]
theorem nbits_le : ∀ (k n : Nat), n < 2 ^ k → nbits n ≤ k
  | 0, n, h => by have : n = 0 := by simpa using h
                  subst this; rw [nbits_zero]; exact Nat.le_refl _
  | k + 1, n, h => by
    by_cases h0 : n = 0
    · subst h0; rw [nbits_zero]; omega
    · rw [nbits_pos (by omega)]
      have := nbits_le k (n / 2) (by rw [Nat.pow_succ] at h; omega)
      omega
theorem nbits_shift : ∀ (k n : Nat), 2 ^ k ≤ n → nbits n = k + nbits (n / 2 ^ k)
  | 0, n, h => by simp
  | k + 1, n, h => by
    have hp : 0 < 2 ^ k := Nat.two_pow_pos k
    have h2 : 2 ^ k ≤ n / 2 := by rw [Nat.pow_succ] at h; omega
    rw [nbits_pos (by omega), nbits_shift k (n / 2) h2, Nat.div_div_eq_div_mul, show 2 * 2 ^ k = 2 ^ (k + 1) by rw [Nat.pow_succ]; omega]
    omega
theorem uv_length (n : Nat) : (uvarint n).length = max 1 ((nbits n + 6) / 7) := by
  induction n using Nat.strongRecOn with
  | ind n ih =>
    by_cases h : n < 128
    · rw [uvarint_small h]
      have := nbits_le 7 n h
      simp; omega
    · rw [uvarint_big (by omega), List.length_cons, ih (n / 128) (by omega), nbits_shift 7 n (by omega)]
      have e : n / 2 ^ 7 = n / 128 := rfl
      rw [e]
      have h1 : 0 < nbits (n / 128) := by rw [nbits_pos (by omega)]; omega
      omega
theorem uv_mark (n : Nat) : ∀ i, i < (uvarint n).length → (128 ≤ ((uvarint n).getD i 0).toNat ↔ i + 1 < (uvarint n).length) := by
  induction n using Nat.strongRecOn with
  | ind n ih =>
    intro i hi
    by_cases h : n < 128
    · rw [uvarint_small h] at hi ⊢
      have hi0 : i = 0 := by simpa using hi
      subst hi0
      have : ([n.toUInt8].getD 0 0).toNat = n := toUInt8_toNat (by omega)
      rw [this]; simp; omega
    · rw [uvarint_big (by omega)] at hi ⊢
      cases i with
      | zero =>
        have : ((((n % 128 + 128).toUInt8) :: uvarint (n / 128)).getD 0 0).toNat = n % 128 + 128 := toUInt8_toNat (by omega)
        have hp := uvarint_pos (n / 128)
        rw [this]; simp; omega
      | succ i =>
        have := ih (n / 128) (by omega) i (by simpa using hi)
        simpa using this
theorem dec_uv (more : List UInt8) (y : Nat) : ∀ (i acc : Nat), (i = 0 ∨ 0 < y) → i ≤ 9 → y * 2 ^ (7 * i) < 18446744073709551616 → decFrom i acc (uvarint y ++ more) = (acc + y * 2 ^ (7 * i), i + (uvarint y).length, 0, 0) := by
  induction y using Nat.strongRecOn with
  | ind y ih =>
    intro i acc h0 hi hy
    have hp : 0 < 2 ^ (7 * i) := Nat.two_pow_pos _
    by_cases h : y < 128
    · rw [uvarint_small h]
      have ht : (y.toUInt8).toNat = y := toUInt8_toNat (by omega)
      have hn : ¬ ((i = 9 ∧ 1 < (y.toUInt8).toNat) ∨ (0 < i ∧ (y.toUInt8).toNat = 0)) := by
        rw [ht]
        rintro (⟨rfl, h1⟩ | ⟨h1, h2⟩)
        · have : 2 * 2 ^ (7 * 9) ≤ y * 2 ^ (7 * 9) := Nat.mul_le_mul_right _ h1
          simp at this hy; omega
        · omega
      have := dec_done (acc := acc) (r := more) hn (by omega)
      rw [ht, Nat.mod_eq_of_lt h] at this
      simpa using this
    · rw [uvarint_big (by omega)]
      have ht : ((y % 128 + 128).toUInt8).toNat = y % 128 + 128 := toUInt8_toNat (by omega)
      have hi9 : i ≠ 9 := by
        rintro rfl
        have : 128 * 2 ^ (7 * 9) ≤ y * 2 ^ (7 * 9) := Nat.mul_le_mul_right _ (by omega)
        simp at this hy; omega
      have hn : ¬ ((i = 9 ∧ 1 < ((y % 128 + 128).toUInt8).toNat) ∨ (0 < i ∧ ((y % 128 + 128).toUInt8).toNat = 0)) := by
        rw [ht]; omega
      rw [List.cons_append, dec_more hn (by omega), ht]
      have e128 : 2 ^ (7 * (i + 1)) = 128 * 2 ^ (7 * i) := by rw [show 7 * (i + 1) = 7 + 7 * i by omega, Nat.pow_add]
      have hy2 : y / 128 * 2 ^ (7 * (i + 1)) ≤ y * 2 ^ (7 * i) := by
        rw [e128, ← Nat.mul_assoc]; exact Nat.mul_le_mul_right _ (by omega)
      rw [ih (y / 128) (by omega) (i + 1) _ (Or.inr (by omega)) (by omega) (by omega)]
      have ev : acc + (y % 128 + 128) % 128 * 2 ^ (7 * i) + y / 128 * 2 ^ (7 * (i + 1)) = acc + y * 2 ^ (7 * i) := by
        rw [e128, ← Nat.mul_assoc, Nat.add_assoc, ← Nat.add_mul]
        congr 2
        omega
      rw [ev, List.length_cons]
      congr 2
      omega
/-- What is written is read, whatever stands behind. -/
theorem decU_uv (x : Nat) (hx : x < 18446744073709551616) (more : List UInt8) : decU (uvarint x ++ more) = (x, (uvarint x).length, 0, 0) := by
  have := dec_uv more x 0 0 (Or.inl rfl) (by omega) (by simpa using hx)
  simpa [decU] using this
theorem zig_even {k : Int} (h0 : 0 ≤ k) (h1 : k < 9223372036854775808) : zigzag k % 2 = 0 ∧ zigzag (-k - 1) = zigzag k + 1 ∧ zigzag k + 1 < 18446744073709551616 := by
  unfold zigzag
  rw [if_pos h0, if_neg (by omega)]
  omega
end Go.Proofs.YthphadbcebeoaaaGreatDoor
/- The walk of the statement WireLengths: it answers true; nothing old turns. -/
namespace Go.Proofs.YthphadbcebeoaaaGreatDoor
open Go.RowKit Go.Lib

/-- PutUint's bytes as cells. -/
theorem putUint_cells (x : Nat) (w : World) (hx : x < 18446744073709551616) :
    Calls Tryz.prog 78 #[.int .u64 x] w fun e w' => ∃ b cap, e = .returned (.slice (some ⟨b, 0, none⟩) (uvarint x).length cap) ∧
      (∀ i, i < (uvarint x).length → w'.cell? ⟨b, i, none⟩ = some (.int .u8 (((uvarint x).getD i 0).toNat : Int))) ∧ RBp w' w'.heap.size (.slice (some ⟨b, 0, none⟩) (uvarint x).length cap) (uvarint x) ∧ Below w.heap.size w w' := by
  refine (putUint_any x w hx).mono ?_
  rintro e w' ⟨v', rfl, ho, hb⟩
  have hl := uvarint_length64 hx
  have hp := uvarint_pos x
  have hr := rb_own ho (by omega)
  have hr' := hr
  obtain ⟨_, ⟨rfl, h2⟩ | ⟨b, off, cap, h3, h4, h5, rfl, h7⟩⟩ := hr
  · rw [h2] at hp; simp at hp
  · rcases ho.2 with ⟨h, _⟩ | ⟨g, cap', cur, h, _⟩
    · cases h
    · injection h with h8 h9 h10
      injection h8 with h8
      injection h8 with h8 h11
      subst h8; subst h11
      refine ⟨b, cap, rfl, fun i hi => ?_, hr', hb⟩
      have := h7 i hi
      rwa [Nat.zero_add] at this
theorem uint_back (x : Nat) (v : Value) (B : Nat) (w : World) (hx : x < 18446744073709551616) (hv : RBp w B v (uvarint x)) :
    Calls Tryz.prog 93 #[v] w fun e w' => e = .returned (.tuple #[.int .u64 x, .int .i64 ((uvarint x).length : Int), .nilIface]) ∧ w' = w := by
  have hd : decU (uvarint x) = (x, (uvarint x).length, 0, 0) := by have := decU_uv x hx []; rwa [List.append_nil] at this
  exact uint_ok v B x _ 0 _ w hv hd

end Go.Proofs.YthphadbcebeoaaaGreatDoor
