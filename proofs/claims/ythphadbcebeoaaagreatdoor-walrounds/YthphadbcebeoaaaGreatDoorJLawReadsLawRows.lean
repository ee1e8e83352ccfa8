/- Values, on two rows that read the same; the walk of the statement WireReads: it answers true; nothing old turns. -/
import Derived.Test.YthphadbcebeoaaaGreatDoorUnAll
import Derived.Test.YthphadbcebeoaaaGreatDoorRowMath
import Derived.Test.YthphadbcebeoaaaGreatDoorJJointRdAllRefRowValsInLawWrites
namespace Go.Proofs.YthphadbcebeoaaaGreatDoor
open Go.RowKit Go.Lib

/-- A row that reads as these values. -/
def RW (w : World) (v : Value) (gs : List GV) : Prop :=
  (v = .slice none 0 0 ∧ gs = []) ∨ ∃ b off cap, b < w.heap.size ∧ v = .slice (some ⟨b, off, none⟩) gs.length cap ∧ ∀ i g, gs[i]? = some g → w.cell? ⟨b, off + i * 3, none⟩ = some (.int .i64 g.kind) ∧ w.cell? ⟨b, off + i * 3 + 1, none⟩ = some (.int .i64 g.int) ∧ w.cell? ⟨b, off + i * 3 + 2, none⟩ = some (.string g.text)
theorem RW.later {w w' : World} {v : Value} {gs : List GV} (h : RW w v gs) (hb : Below w.heap.size w w') : RW w' v gs := by
  rcases h with h | ⟨b, off, cap, hbB, rfl, hc⟩
  · exact .inl h
  · refine .inr ⟨b, off, cap, Nat.lt_of_lt_of_le hbB hb.size, rfl, fun i g hg => ?_⟩
    obtain ⟨c0, c1, c2⟩ := hc i g hg
    exact ⟨(hb.cell (p := ⟨b, off + i * 3, none⟩) hbB).trans c0, (hb.cell (p := ⟨b, off + i * 3 + 1, none⟩) hbB).trans c1, (hb.cell (p := ⟨b, off + i * 3 + 2, none⟩) hbB).trans c2⟩
theorem gvs_get : ∀ (gs : List GV) (i j : Nat) (g : GV), gs[i]? = some g → j < 3 → (gvsCells gs)[i * 3 + j]? = (gvCells g)[j]?
  | [], i, j, g, h, hj => by simp at h
  | x :: r, 0, j, g, h, hj => by
    simp at h; subst h
    rw [gvsCells, List.flatMap_cons, List.getElem?_append_left (by simp [gvCells]; omega)]
    simp
  | x :: r, i + 1, j, g, h, hj => by
    have h' : r[i]? = some g := by simpa using h
    have ih := gvs_get r i j g h' hj
    rw [gvsCells, List.flatMap_cons, List.getElem?_append_right (by simp [gvCells]; omega)]
    have e : (i + 1) * 3 + j - (gvCells x).length = i * 3 + j := by simp [gvCells]; omega
    rw [e]; exact ih
end Go.Proofs.YthphadbcebeoaaaGreatDoor
namespace Go.Proofs.YthphadbcebeoaaaGreatDoor
open Go.RowKit Go.Lib

/-- What a reader of the program tells; and the document's own. -/
def PP (V : Value) (k c : Nat) (W : World) (e : Ending) (w' : World) : Prop := ∃ er, e = .returned (.tuple #[V, .int .i64 (k : Int), er]) ∧ EO w' er (c : Int) ∧ Below W.heap.size W w'
def PR (V : Value) (k c : Nat) (W : World) (e : Ending) (w' : World) : Prop := e = .returned (.tuple #[V, .int .i64 (k : Int), .int .i64 (c : Int)]) ∧ Below W.heap.size W w'
theorem pp_ok {V : Value} {k : Nat} {W : World} {e : Ending} {w' : World} (h : e = .returned (.tuple #[V, .int .i64 (k : Int), .nilIface]) ∧ w' = W) : PP V k 0 W e w' := by
  obtain ⟨rfl, rfl⟩ := h
  exact ⟨_, rfl, .inl ⟨rfl, rfl⟩, Below.refl _ _⟩
theorem pp_bad {V : Value} {c b : Nat} {pl : Int} {W : World} {e : Ending} {w' : World} (h : e = .returned (.tuple #[V, .int .i64 0, ev b]) ∧ ErrAt w' b pl (c : Int) ∧ Below W.heap.size W w') : PP V 0 c W e w' := by
  obtain ⟨rfl, h1, h2⟩ := h
  exact ⟨_, rfl, .inr ⟨b, pl, rfl, h1⟩, h2⟩
theorem pr_same {V : Value} {k c : Nat} {W : World} {e : Ending} {w' : World} (h : e = .returned (.tuple #[V, .int .i64 (k : Int), .int .i64 (c : Int)]) ∧ w' = W) : PR V k c W e w' := by
  obtain ⟨rfl, rfl⟩ := h
  exact ⟨rfl, Below.refl _ _⟩

theorem rdVals_len (l : List UInt8) (s : Except Nat Nat) : ∀ n, (rdVals l n s).1.length ≤ n := by
  intro n
  induction n with
  | zero => simp [rdVals]
  | succ n ih =>
    unfold rdVals
    split
    · simp
    · split
      · simp
      · simp; omega
theorem rdRow_len (l : List UInt8) : (rdRow l (.ok 0)).1.length ≤ 1000000 := by
  unfold rdRow
  split
  · simp
  · rename_i a h
    obtain ⟨n, e, hn⟩ := rdBetween_ok (by omega) h
    have := rdVals_len l (.ok a) (rdBetween l 0 64 (.ok 0)).1.toNat
    rw [e] at this ⊢
    simp at this hn ⊢
    omega
end Go.Proofs.YthphadbcebeoaaaGreatDoor
/- Rows and entries: arguments; contracts; the walk of the statement WireRows: it answers true; nothing old turns. -/
namespace Go.Proofs.YthphadbcebeoaaaGreatDoor
open Go.ChangeShapes Go.WideShapes Go.ChangeAt Go.RowKit Go.Lib

/-- A row of values, whatever its length; an empty one may lie anywhere. -/
def RVe (w : World) (B : Nat) (v : Value) (gs : List GV) : Prop := RVu w B v gs ∨ (gs = [] ∧ ∃ a cap, v = .slice (some a) 0 cap)
theorem RVe.later {w w' : World} {B B' : Nat} {v : Value} {gs : List GV} (h : RVe w B v gs) (hb : Below B w w') (hB : B ≤ B') : RVe w' B' v gs := by
  rcases h with h | h
  · exact .inl (h.later hb hB)
  · exact .inr h
/-- A row of rows. -/
def RRs (w : World) (B : Nat) (v : Value) (rs : List (Value × List GV)) : Prop :=
  rs.length ≤ maxLen ∧ (∀ x ∈ rs, RVe w B x.1 x.2) ∧ ((v = .slice none 0 0 ∧ rs = []) ∨
    ∃ b off cap, b < B ∧ v = .slice (some ⟨b, off, none⟩) rs.length cap ∧ ∀ i x, rs[i]? = some x → w.cell? ⟨b, off + i, none⟩ = some x.1)
/-- A row of entries. -/
def REs (w : World) (B : Nat) (v : Value) (es : List GE) : Prop :=
  es.length ≤ maxLen ∧ (∀ g ∈ es, g.ok) ∧ ((v = .slice none 0 0 ∧ es = []) ∨
    ∃ b off cap, b < B ∧ v = .slice (some ⟨b, off, none⟩) es.length cap ∧ ∀ i g, es[i]? = some g → w.cell? ⟨b, off + i * 5, none⟩ = some (.int .u64 g.term) ∧ w.cell? ⟨b, off + i * 5 + 1, none⟩ = some (.int .i64 g.kind) ∧ w.cell? ⟨b, off + i * 5 + 2, none⟩ = some (.int .u64 g.client) ∧ w.cell? ⟨b, off + i * 5 + 3, none⟩ = some (.int .u64 g.seq) ∧ w.cell? ⟨b, off + i * 5 + 4, none⟩ = some (.string g.sql))

section
variable {H : Type} {enc : TypeId × Value → H} {W : World} {base : Nat} {sp : Nat → Bool} {hd : Bool}

set_option maxRecDepth 100000 in
theorem ents_addr {b0 : Nat} {a : Addr} {len cap : Nat} (h : Value.okWide Tryz.prog W .any b0 34 (.slice (some a) len cap)) : a.spot = none ∧ a.block < W.heap.size := by
  simp only [Value.okWide, Tryz.underlying34, Cell.okWide, Cell.ok] at h
  obtain ⟨_, _, _, h2, row, cells, h3, _⟩ := h
  refine ⟨h2, ?_⟩
  rcases Nat.lt_or_ge a.block W.heap.size with h' | h'
  · exact h'
  · simp [World.shape?, Array.getElem?_eq_none h'] at h3
theorem list5 {α : Type} {cs : List α} (h : cs.length = 5) : ∃ a b c d e, cs = [a, b, c, d, e] := by
  match cs, h with
  | [a, b, c, d, e], _ => exact ⟨a, b, c, d, e, rfl⟩
set_option maxRecDepth 100000 in
theorem ent_cells {fuel : Nat} {cs : List Value} {x : DataW H × List MemPlace} (h : DataW.trod enc Tryz.prog W base sp hd fuel 37 cs = some x) :
    ∃ g : GE, g.ok ∧ cs = [.int .u64 g.term, .int .i64 g.kind, .int .u64 g.client, .int .u64 g.seq, .string g.sql] := by
  obtain ⟨y0, y1, y2, y3, y4, n, hl, h0, h1, h2, h3, h4⟩ := trod_struct5 Tryz.underlying37 h
  rw [Tryz.cells37] at hl
  obtain ⟨a, b, c, e, s, rfl⟩ := list5 hl
  simp [Tryz.cells9, Tryz.cells35, Tryz.cells3] at h0 h1 h2 h3 h4
  obtain ⟨te, e0, _, w0⟩ := DataW.trod_int Tryz.underlying35 h0
  obtain ⟨k, e1, _, _⟩ := DataW.trod_int Tryz.underlying3 h1
  obtain ⟨cl, e2, _, w2⟩ := DataW.trod_int Tryz.underlying35 h2
  obtain ⟨q, e3, _, w3⟩ := DataW.trod_int Tryz.underlying35 h3
  obtain ⟨t, e4, _, w4⟩ := DataW.trod_string Tryz.underlying9 h4
  simp at e0 e1 e2 e3 e4
  subst e0 e1 e2 e3 e4
  have b0 := bounds_u64 w0
  have b2 := bounds_u64 w2
  have b3 := bounds_u64 w3
  obtain ⟨te, rfl⟩ := Int.eq_ofNat_of_zero_le b0.1
  obtain ⟨cl, rfl⟩ := Int.eq_ofNat_of_zero_le b2.1
  obtain ⟨q, rfl⟩ := Int.eq_ofNat_of_zero_le b3.1
  exact ⟨⟨te, k, cl, q, t⟩, ⟨by dsimp only; omega, by dsimp only; omega, by dsimp only; omega, w4⟩, rfl⟩
set_option maxRecDepth 100000 in
theorem ents_in {b0 : Nat} {a : Option Addr} {len cap : Nat} {d : DataW H} {ps : List MemPlace}
    (hv : Value.okWide Tryz.prog W .any b0 34 (.slice a len cap)) (hT : DataW.Trod enc Tryz.prog W base sp hd 34 (.slice a len cap) d ps) :
    ∃ es, es.length = len ∧ REs W W.heap.size (.slice a len cap) es := by
  obtain ⟨fuel, hf⟩ := hT
  rcases DataW.trod_slice Tryz.underlying34 hf with ⟨hcs, _⟩ | ⟨x, l, c, elems, rest, n, _, hcs, _, hb, hl, hm, hlen, hel, _⟩
  · simp [Value.cells] at hcs
    obtain ⟨rfl, rfl, rfl⟩ := hcs
    exact ⟨[], rfl, Nat.zero_le _, fun g hg => (by cases hg), .inl ⟨rfl, rfl⟩⟩
  · simp [Value.cells] at hcs
    obtain ⟨rfl, rfl, rfl⟩ := hcs
    obtain ⟨hs, hblk⟩ := ents_addr hv
    obtain ⟨b, off, spot⟩ := x
    simp only at hs
    subst hs
    rw [Tryz.cells37] at hel
    have each : ∀ i, i < len → ∃ g : GE, g.ok ∧ W.cell? ⟨b, off + i * 5, none⟩ = some (.int .u64 g.term) ∧ W.cell? ⟨b, off + i * 5 + 1, none⟩ = some (.int .i64 g.kind) ∧ W.cell? ⟨b, off + i * 5 + 2, none⟩ = some (.int .u64 g.client) ∧ W.cell? ⟨b, off + i * 5 + 3, none⟩ = some (.int .u64 g.seq) ∧ W.cell? ⟨b, off + i * 5 + 4, none⟩ = some (.string g.sql) := by
      intro i hi
      have he := hel i hi
      rw [List.getElem?_eq_getElem (by omega), Option.bind_eq_some_iff] at he
      obtain ⟨cs, hc, ht⟩ := he
      obtain ⟨g, hg, rfl⟩ := ent_cells ht
      obtain ⟨_, _, hcell⟩ := World.cells?_some hc
      rw [Go.WideShapes.add_plain] at hcell
      have c0 := hcell 0 (by omega)
      have c1 := hcell 1 (by omega)
      have c2 := hcell 2 (by omega)
      have c3 := hcell 3 (by omega)
      have c4 := hcell 4 (by omega)
      rw [Go.WideShapes.add_plain] at c0 c1 c2 c3 c4
      exact ⟨g, hg, by simpa using c0, by simpa using c1, by simpa using c2, by simpa using c3, by simpa using c4⟩
    obtain ⟨es, hgl, hgs⟩ := list_of _ len each
    refine ⟨es, hgl, by omega, fun g hg => ?_, .inr ⟨b, off, cap, hblk, by rw [hgl], fun i g hg => (hgs i g hg).2⟩⟩
    obtain ⟨i, hi⟩ := List.mem_iff_getElem?.1 hg
    exact (hgs i g hi).1
end
end Go.Proofs.YthphadbcebeoaaaGreatDoor
namespace Go.Proofs.YthphadbcebeoaaaGreatDoor
open Go.RowKit Go.Lib

/-- A Boolean that, if true, bounds a length. -/
def UpTo (n most : Nat) (e : Ending) : Prop := ∃ m, e = .returned (.bool m) ∧ (m = true → n ≤ most)
set_option maxHeartbeats 1600000 in
theorem small_12 (v : Value) (es : List GE) (w : World) (hv : REs w w.heap.size v es) :
    Calls Tryz.prog 40 #[v, .int .i64 12] w fun e w' => UpTo es.length 12 e ∧ w' = w := by
  obtain ⟨h1, h2, ⟨rfl, rfl⟩ | ⟨b, off, cap, hb, rfl, hc⟩⟩ := hv
  · go_enter Tryz.func40, Tryz.ntmps40
    go_wp2
    refine wp_loop_rounds 1 ?_
    rw [rounds_succ]
    go_wp2
    go_ret
    exact ⟨⟨_, rfl, fun _ => Nat.zero_le _⟩, rfl⟩
  · have HC := hide hc
    have HO := hide h2
    have h1' : (es.length : Int) ≤ 9223372036854775807 := by unfold maxLen at h1; omega
    clear hc h2 h1
    go_enter Tryz.func40, Tryz.ntmps40
    go_wp2
    go_loop [5] (fun i => ∃ k : Nat, k ≤ es.length ∧ i = .int .i64 k) (fun i => es.length - (intOf i).toNat)
    case atStart => exact ⟨0, by omega, rfl⟩
    case round =>
      obtain ⟨k, hk, rfl⟩ := hrel
      by_cases hlt : k < es.length
      · obtain ⟨g, hgk⟩ : ∃ g, es[k]? = some g := ⟨es[k], List.getElem?_eq_getElem hlt⟩
        obtain ⟨c0, c1, c2, c3, c4⟩ := unhide HC k g hgk
        have hgo := unhide HO g (List.mem_of_getElem? hgk)
        have hsz : (g.sql.size : Int) ≤ 9223372036854775807 := by have := hgo.2.2.2; unfold maxLen at this; omega
        clear HC HO hgk hgo c0 c1 c2 c3
        by_cases h100 : (2100 : Int) < (g.sql.size : Int)
        · go_wp2
          go_ret
          exact ⟨⟨false, rfl, fun h => by cases h⟩, rfl⟩
        · go_wp2
          go_round
          case rel => exact ⟨k + 1, by omega, by go_num⟩
          case measure => simp [intOf]; omega
      · clear HC HO
        go_wp2
        go_ret
        exact ⟨⟨_, rfl, fun h => by have := of_decide_eq_true h; omega⟩, rfl⟩

theorem entry_good (v : Value) (l : List UInt8) (g : GE) (k : Nat) (w : World) (hE : ET w) (hv : RBp w w.heap.size v l) (h : rdEnt l (.ok 0) = (g, .ok k)) :
    Calls Tryz.prog 94 #[v] w fun e w' => e = .returned (.tuple #[.agg #[.int .u64 g.term, .int .i64 g.kind, .int .u64 g.client, .int .u64 g.seq, .string g.sql], .int .i64 (k : Int), .nilIface]) ∧ Below w.heap.size w w' := by
  refine (entry_any v l w hE hv).mono fun e w' hp => ?_
  rw [h] at hp
  exact hp
theorem entry_short (v : Value) (l : List UInt8) (w : World) (hE : ET w) (hv : RBp w w.heap.size v l) (h : (rdEnt l (.ok 0)).2 = .error 22) :
    Calls Tryz.prog 94 #[v] w fun e w' => ∃ b pl, e = .returned (.tuple #[.agg #[.int .u64 0, .int .i64 0, .int .u64 0, .int .u64 0, .string ⟨#[]⟩], .int .i64 0, ev b]) ∧ ErrAt w' b pl 22 ∧ Below w.heap.size w w' := by
  refine (entry_any v l w hE hv).mono fun e w' hp => ?_
  unfold EntPost at hp
  rw [h] at hp
  exact hp
/-- A row that reads as these values; an empty one may lie anywhere. -/
def RWe (w : World) (v : Value) (gs : List GV) : Prop := RW w v gs ∨ (gs = [] ∧ ∃ a k, v = .slice a 0 k)
theorem RVe.rw' {w : World} {v : Value} {gs : List GV} (h : RVe w w.heap.size v gs) : RWe w v gs := by
  rcases h with ⟨_, _, h⟩ | ⟨rfl, a, cap, rfl⟩
  · exact .inl h
  · exact .inr ⟨rfl, _, _, rfl⟩
end Go.Proofs.YthphadbcebeoaaaGreatDoor
namespace Go.Proofs.YthphadbcebeoaaaGreatDoor
open Go.RowKit Go.Lib

theorem Tryz.infoE : (Tryz.prog.info? 37).map (fun i => (i.zero, i.size, i.bytes)) = some (some (.agg #[.int .u64 0, .int .i64 0, .int .u64 0, .int .u64 0, .string ⟨#[]⟩]), 5, 48) := by kernel_rfl
theorem own_keepT {w w' : World} {B : Nat} {e T : TypeId} {sz : Nat} {v : Value} {n : Nat} {xs : List Value} (h : w.ownsRow B e sz v n xs) (hk : KeepT T w w') (hne : e ≠ T) : w'.ownsRow B e sz v n xs := by
  obtain ⟨h1, h2 | ⟨g, cap, cur, h3, h4, h5, h6⟩⟩ := h
  · exact ⟨h1, .inl h2⟩
  · have hg : g < w.heap.size := by
      rcases Nat.lt_or_ge g w.heap.size with h' | h'
      · exact h'
      · rw [Array.getElem?_eq_none h'] at h5; cases h5
    refine ⟨h1, .inr ⟨g, cap, cur, h3, h4, (hk.2 g hg (fun c e => ?_)).trans h5, h6⟩⟩
    rw [h5] at e
    injection e with e
    injection e with _ e _
    exact hne e
theorem RVe.slice {w : World} {B : Nat} {v : Value} {gs : List GV} (h : RVe w B v gs) : ∃ a k, v = .slice a gs.length k := by
  rcases h with ⟨_, _, ⟨rfl, rfl⟩ | ⟨b, off, cap, _, rfl, _⟩⟩ | ⟨rfl, a, cap, rfl⟩
  · exact ⟨_, _, rfl⟩
  · exact ⟨_, _, rfl⟩
  · exact ⟨_, _, rfl⟩
theorem RVe.ok {w : World} {B : Nat} {v : Value} {gs : List GV} (h : RVe w B v gs) : ∀ g ∈ gs, g.ok := by
  rcases h with ⟨_, h, _⟩ | ⟨rfl, _⟩
  · exact h
  · intro g hg; cases hg
theorem row_size {gs : List GV} {b : List UInt8} (hg : ∀ g ∈ gs, g.ok) (h : rowBytes gs = some b) : b.length ≤ 10000 := by
  obtain ⟨_, h64, _⟩ := rowBytes_form h
  unfold rowBytes at h
  rw [putLen, if_pos (by omega)] at h
  have h1 := putVals_len hg b h
  have h2 := uvarint_length64 (x := gs.length) (by omega)
  simp at h1
  omega

/-- A row that was kept: its value, what it reads as, its bytes. -/
abbrev KR := Value × List GV × List UInt8
def goodK (w : World) (x : KR) : Prop := RVe w w.heap.size x.1 x.2.1 ∧ rowBytes x.2.1 = some x.2.2
def bytesK (ks : List KR) : List UInt8 := ks.flatMap (·.2.2)
theorem bytesK_snoc (ks : List KR) (x : KR) : bytesK (ks ++ [x]) = bytesK ks ++ x.2.2 := by simp [bytesK]
theorem bytesK_len {w : World} : ∀ {ks : List KR}, (∀ x ∈ ks, goodK w x) → (bytesK ks).length ≤ ks.length * 10000
  | [], _ => by simp [bytesK]
  | x :: r, h => by
    have h1 := row_size (h x (by simp)).1.ok (h x (by simp)).2
    have h2 := bytesK_len (ks := r) (fun y hy => h y (by simp [hy]))
    have e : bytesK (x :: r) = x.2.2 ++ bytesK r := by simp [bytesK]
    rw [e]; simp; omega
/-- An entry that was kept, and its bytes. -/
abbrev KE := GE × List UInt8
def goodE (x : KE) : Prop := x.1.ok ∧ entBytes x.1 = some x.2
def bytesE (xs : List KE) : List UInt8 := xs.flatMap (·.2)
theorem bytesE_snoc (xs : List KE) (x : KE) : bytesE (xs ++ [x]) = bytesE xs ++ x.2 := by simp [bytesE]
theorem ent_form {g : GE} {l : List UInt8} (h : entBytes g = some l) : g.may = true ∧ l = g.bytes := by
  unfold entBytes at h
  cases hm : g.may with
  | false => rw [putEnt_no hm] at h; cases h
  | true =>
    rw [putEnt_yes hm] at h
    injection h with h
    exact ⟨rfl, h.symm⟩
theorem ent_size {g : GE} {l : List UInt8} (hg : g.ok) (h : entBytes g = some l) : l.length ≤ 100000 := by
  obtain ⟨hm, rfl⟩ := ent_form h
  exact ge_bytes_len hg hm
theorem bytesE_len : ∀ {xs : List KE}, (∀ x ∈ xs, goodE x) → (bytesE xs).length ≤ xs.length * 100000
  | [], _ => by simp [bytesE]
  | x :: r, h => by
    have h1 := ent_size (h x (by simp)).1 (h x (by simp)).2
    have h2 := bytesE_len (xs := r) (fun y hy => h y (by simp [hy]))
    have e : bytesE (x :: r) = x.2 ++ bytesE r := by simp [bytesE]
    rw [e]; simp; omega
def geCells (g : GE) : List Value := [.int .u64 g.term, .int .i64 g.kind, .int .u64 g.client, .int .u64 g.seq, .string g.sql]
def gesCells (xs : List KE) : List Value := xs.flatMap fun x => geCells x.1
theorem gesCells_snoc (xs : List KE) (x : KE) : gesCells (xs ++ [x]) = gesCells xs ++ geCells x.1 := by simp [gesCells]
theorem five_new (w : World) (g : GE) (e : TypeId) : ∀ j v, (geCells g)[j]? = some v → (w.alloc (.cells #[.int .u64 g.term, .int .i64 g.kind, .int .u64 g.client, .int .u64 g.seq, .string g.sql] e)).cell? ((⟨w.heap.size, 0, none⟩ : Addr).add j) = some v := by
  intro j v hj
  match j, hj with
  | 0, hj => simp [geCells] at hj; subst hj; simp [Addr.add]
  | 1, hj => simp [geCells] at hj; subst hj; simp [Addr.add]
  | 2, hj => simp [geCells] at hj; subst hj; simp [Addr.add]
  | 3, hj => simp [geCells] at hj; subst hj; simp [Addr.add]
  | 4, hj => simp [geCells] at hj; subst hj; simp [Addr.add]
theorem five_cell (g : GE) : ∀ u ∈ geCells g, u.oneCell' = true := by
  intro u hu
  simp [geCells] at hu
  rcases hu with rfl | rfl | rfl | rfl | rfl <;> rfl
/-- A cell of a row of the call's own. -/
theorem own_cell1 {w : World} {B : Nat} {e : TypeId} {a : Option Addr} {n cap k : Nat} {xs : List Value} {u : Value} (h : w.ownsRow B e 1 (.slice a n cap) n xs) (hx : xs[k]? = some u) : ∃ g, a = some ⟨g, 0, none⟩ ∧ g < w.heap.size ∧ w.cell? ⟨g, k, none⟩ = some u := by
  obtain ⟨h1, ⟨hv, h2⟩ | ⟨g, cap', cur, hv, h4, h5, h6, h7, h8, h9⟩⟩ := h
  · subst h2
    rw [List.getElem?_eq_none (by omega)] at hx; cases hx
  · injection hv with e1 _ _
    refine ⟨g, e1, ?_, ?_⟩
    · rcases Nat.lt_or_ge g w.heap.size with h' | h'
      · exact h'
      · rw [Array.getElem?_eq_none h'] at h5; cases h5
    · have hlt : k < n := by
        have := (List.getElem?_eq_some_iff.1 hx).1
        omega
      rw [← h9, Nat.mul_one, List.getElem?_take, if_pos hlt, Array.getElem?_toList] at hx
      simp [World.cell?, h5, hx]
theorem bytesK_drop {ks : List KR} {k : Nat} {x : KR} (h : ks[k]? = some x) : bytesK (ks.drop k) = x.2.2 ++ bytesK (ks.drop (k + 1)) := by
  have hl := (List.getElem?_eq_some_iff.1 h).1
  have e : ks[k] = x := by rw [List.getElem?_eq_getElem hl] at h; injection h
  rw [List.drop_eq_getElem_cons hl, e]; simp [bytesK]

theorem ges_get : ∀ (xs : List KE) (i j : Nat) (x : KE), xs[i]? = some x → j < 5 → (gesCells xs)[i * 5 + j]? = (geCells x.1)[j]?
  | [], i, j, g, h, hj => by simp at h
  | y :: r, 0, j, g, h, hj => by
    simp at h; subst h
    rw [gesCells, List.flatMap_cons, List.getElem?_append_left (by simp [geCells]; omega)]
    simp
  | y :: r, i + 1, j, g, h, hj => by
    have h' : r[i]? = some g := by simpa using h
    have ih := ges_get r i j g h' hj
    rw [gesCells, List.flatMap_cons, List.getElem?_append_right (by simp [geCells]; omega)]
    have e : (i + 1) * 5 + j - (geCells y.1).length = i * 5 + j := by simp [geCells]; omega
    rw [e]; exact ih
/-- An entry of a row of the call's own. -/
theorem own_cell5 {w : World} {B : Nat} {a : Option Addr} {cap k : Nat} {xs : List KE} {x : KE} (h : w.ownsRow B 37 5 (.slice a xs.length cap) xs.length (gesCells xs)) (hx : xs[k]? = some x) :
    ∃ g, a = some ⟨g, 0, none⟩ ∧ g < w.heap.size ∧ w.cell? ⟨g, k * 5, none⟩ = some (.int .u64 x.1.term) ∧ w.cell? ⟨g, k * 5 + 1, none⟩ = some (.int .i64 x.1.kind) ∧ w.cell? ⟨g, k * 5 + 2, none⟩ = some (.int .u64 x.1.client) ∧ w.cell? ⟨g, k * 5 + 3, none⟩ = some (.int .u64 x.1.seq) ∧ w.cell? ⟨g, k * 5 + 4, none⟩ = some (.string x.1.sql) := by
  have hlt := (List.getElem?_eq_some_iff.1 hx).1
  obtain ⟨h1, ⟨hv, h2⟩ | ⟨g, cap', cur, hv, h4, h5, h6, h7, h8, h9⟩⟩ := h
  · omega
  · injection hv with e1 _ _
    have cell : ∀ j u, j < 5 → (geCells x.1)[j]? = some u → w.cell? ⟨g, k * 5 + j, none⟩ = some u := by
      intro j u hj hu
      have e2 := ges_get xs k j x hx hj
      rw [hu, ← h9] at e2
      rw [List.getElem?_take, if_pos (by omega), Array.getElem?_toList] at e2
      simp [World.cell?, h5, e2]
    refine ⟨g, e1, ?_, by simpa using cell 0 _ (by omega) rfl, cell 1 _ (by omega) rfl, cell 2 _ (by omega) rfl, cell 3 _ (by omega) rfl, cell 4 _ (by omega) rfl⟩
    rcases Nat.lt_or_ge g w.heap.size with h' | h'
    · exact h'
    · rw [Array.getElem?_eq_none h'] at h5; cases h5
/-- What stands at the head of the fourth loop. -/
def L4 (w1 wr : World) (v7 v9 : Value) (xs : List KE) (k : Nat) : Prop :=
  RBp wr wr.heap.size v7 (bytesE (xs.drop k)) ∧ wr.ownsRow w1.heap.size 37 5 v9 xs.length (gesCells xs) ∧ Below w1.heap.size w1 wr
theorem bytesE_drop {xs : List KE} {k : Nat} {x : KE} (h : xs[k]? = some x) : bytesE (xs.drop k) = x.2 ++ bytesE (xs.drop (k + 1)) := by
  have hl := (List.getElem?_eq_some_iff.1 h).1
  have e : xs[k] = x := by rw [List.getElem?_eq_getElem hl] at h; injection h
  rw [List.drop_eq_getElem_cons hl, e]; simp [bytesE]
theorem gb_pos (g : GE) : 0 < g.bytes.length := by
  have := uvarint_pos g.term
  unfold GE.bytes
  rw [List.length_append]; omega

end Go.Proofs.YthphadbcebeoaaaGreatDoor
