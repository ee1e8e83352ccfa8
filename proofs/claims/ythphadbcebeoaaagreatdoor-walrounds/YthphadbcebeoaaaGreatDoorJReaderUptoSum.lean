/- Contracts of package wire's reader: where it is, or that it failed with a class. -/
import Derived.Test.YthphadbcebeoaaaGreatDoorJNumsFaultsWriterUint
import Derived.Deep.QuietTactic
import Derived.BigQuiet
import Derived.WalkSmall
import Derived.Lib.EndianBits
namespace Go.Proofs.YthphadbcebeoaaaGreatDoor
open Go.RowKit Go.Lib

/-- A slice's value that reads as these bytes, in blocks below B. -/
def RBp (w : World) (B : Nat) (v : Value) (l : List UInt8) : Prop :=
  l.length ≤ 1000000000000 ∧ ((v = .slice none 0 0 ∧ l = []) ∨
    ∃ b off cap, b < B ∧ l.length ≤ cap ∧ cap ≤ maxLen ∧ v = .slice (some ⟨b, off, none⟩) l.length cap ∧ ∀ i, i < l.length → w.cell? ⟨b, off + i, none⟩ = some (.int .u8 ((l.getD i 0).toNat : Int)))
theorem RBp.below {w w' : World} {B B' : Nat} {v : Value} {l : List UInt8} (h : RBp w B v l) (hb : Below B' w w') (hB : B ≤ B') : RBp w' B v l := by
  obtain ⟨h1, h2 | ⟨b, off, cap, hbB, hc, hm, rfl, hcell⟩⟩ := h
  · exact ⟨h1, .inl h2⟩
  · exact ⟨h1, .inr ⟨b, off, cap, hbB, hc, hm, rfl, fun i hi => (hb.cell (p := ⟨b, off + i, none⟩) (Nat.lt_of_lt_of_le hbB hB)).trans (hcell i hi)⟩⟩

/-- No block but p turns. -/
def Fq (p : Nat) (w w' : World) : Prop := Below p w w' ∧ ∀ k, k < w.heap.size → k ≠ p → w'.heap[k]? = w.heap[k]?
theorem Fq.refl (p : Nat) (w : World) : Fq p w w := ⟨Below.refl _ _, fun _ _ _ => rfl⟩
theorem Fq.trans {p : Nat} {a b c : World} (h : Fq p a b) (h' : Fq p b c) : Fq p a c :=
  ⟨h.1.trans h'.1, fun k hk hp => (h'.2 k (Nat.lt_of_lt_of_le hk h.1.size) hp).trans (h.2 k hk hp)⟩
theorem Fq.alloc {p : Nat} {a w : World} (h : Fq p a w) (hp : p ≤ w.heap.size) (o : Obj) : Fq p a (w.alloc o) :=
  ⟨h.1.alloc hp o, fun k hk hkp => (Below.heap_alloc w o k (Nat.lt_of_lt_of_le hk h.1.size)).trans (h.2 k hk hkp)⟩
theorem Fq.setCell {p : Nat} {a w : World} (h : Fq p a w) (j : Nat) (u : Value) : Fq p a (w.setCell ⟨p, j, none⟩ u) :=
  ⟨h.1.setCell (Nat.le_refl _) u, fun k hk hkp => (Below.heap_setCell w ⟨p, j, none⟩ u k hkp).trans (h.2 k hk hkp)⟩
theorem Fq.drewN {p : Nat} {a w : World} (h : Fq p a w) (n : Nat) : Fq p a (w.drewN n) := ⟨below_drewN h.1 n, h.2⟩
theorem Fq.of {p : Nat} {w w' : World} (h : Below w.heap.size w w') (hp : p ≤ w.heap.size) : Fq p w w' := ⟨h.mono hp, fun k hk _ => h.block k hk⟩
theorem Fq.cell {p : Nat} {w w' : World} (h : Fq p w w') {a : Addr} (ha : a.block < w.heap.size) (hp : a.block ≠ p) : w'.cell? a = w.cell? a := World.cell?_of_block (w := w) (h.2 a.block ha hp)
theorem Fq.frozen {p : Nat} {w w' : World} (h : Fq p w w') {a : Addr} (ha : a.block < w.heap.size) (hp : a.block ≠ p) : w'.frozen? a = w.frozen? a := World.frozen?_of_block (w := w) (h.2 a.block ha hp)

/-- A reader at block p over these bytes: where it is, or the class of its fault. -/
def RS (w : World) (p : Nat) (l : List UInt8) (s : Except Nat Nat) : Prop :=
  ET w ∧ 0 < p ∧ w.frozen? ⟨p, 1, none⟩ = false ∧ w.frozen? ⟨p, 2, none⟩ = false ∧ (∃ v, w.cell? ⟨p, 0, none⟩ = some v ∧ RBp w p v l) ∧
  match s with
  | .ok at' => at' ≤ l.length ∧ w.cell? ⟨p, 1, none⟩ = some (.int .i64 (at' : Int)) ∧ w.cell? ⟨p, 2, none⟩ = some .nilIface
  | .error c => ∃ at' b pl, at' ≤ l.length ∧ w.cell? ⟨p, 1, none⟩ = some (.int .i64 ((at' : Nat) : Int)) ∧ w.cell? ⟨p, 2, none⟩ = some (ev b) ∧ p < b ∧ ErrAt w b pl (c : Int)
theorem RS.lt {w : World} {p : Nat} {l : List UInt8} {s : Except Nat Nat} (h : RS w p l s) : p < w.heap.size := by
  obtain ⟨_, _, _, _, ⟨v, h0, _⟩, _⟩ := h; exact lt_of_cell h0
theorem RS.at_le {w : World} {p : Nat} {l : List UInt8} {s : Except Nat Nat} (h : RS w p l s) : l.length ≤ 1000000000000 := by
  obtain ⟨_, _, _, _, ⟨v, h0, h1⟩, _⟩ := h; exact h1.1

theorem rb_drop {w : World} {B b off cap at' : Nat} {l : List UInt8} (hbB : b < B) (hl : at' ≤ l.length) (hcap : l.length ≤ cap) (hm : cap ≤ maxLen) (hlen : l.length ≤ 1000000000000)
    (hcell : ∀ i, i < l.length → w.cell? ⟨b, off + i, none⟩ = some (.int .u8 ((l.getD i 0).toNat : Int))) : RBp w B (.slice (some ⟨b, off + at', none⟩) (l.length - at') (cap - at')) (l.drop at') := by
  refine ⟨by simp; omega, .inr ⟨b, off + at', cap - at', hbB, by simp; omega, by omega, by simp, fun i hi => ?_⟩⟩
  have hi' : i < l.length - at' := by simpa using hi
  have e : (l.drop at').getD i 0 = l.getD (at' + i) 0 := by simp [List.getD_eq_getElem?_getD]
  rw [e, Nat.add_assoc]; exact hcell (at' + i) (by omega)
theorem rb_end {w : World} {B b cap at' : Nat} {l : List UInt8} (hbB : b < B) (hl : at' ≤ l.length) (hcap : l.length ≤ cap) (hce : cap = at') (off : Nat) :
    RBp w B (.slice (some ⟨b, off, none⟩) (l.length - at') 0) (l.drop at') := by
  refine ⟨by simp; omega, .inr ⟨b, off, 0, hbB, by simp; omega, by unfold maxLen; omega, by simp, fun i hi => ?_⟩⟩
  have hi' : i < l.length - at' := by simpa using hi
  omega

set_option maxHeartbeats 1600000 in
theorem rest_any (p at' : Nat) (l : List UInt8) (w : World) (hl : at' ≤ l.length) (v : Value) (h0 : w.cell? ⟨p, 0, none⟩ = some v) (hv : RBp w p v l) (h1 : w.cell? ⟨p, 1, none⟩ = some (.int .i64 (at' : Int))) :
    Calls Tryz.prog 136 #[.pointer (some ⟨p, 0, none⟩)] w fun e w' => ∃ v' n, e = .returned v' ∧ w' = w.drewN n ∧ RBp w p v' (l.drop at') := by
  obtain ⟨hlen, ⟨rfl, rfl⟩ | ⟨b, off, cap, hbB, hcap, hm, rfl, hcell⟩⟩ := hv
  · have e : at' = 0 := by simpa using hl
    subst e
    go_enter Tryz.func136, Tryz.ntmps136
    go_wp2
    go_quiet (fail)
    go_wp2
    go_ret
    exact ⟨_, _, rfl, rfl, by simp, .inl ⟨rfl, rfl⟩⟩
  · have hm' := hm
    unfold maxLen at hm
    by_cases hce : cap = at'
    · have R := hide (rb_end (w := w) (B := p) hbB hl hcap hce off (b := b))
      go_enter Tryz.func136, Tryz.ntmps136
      go_wp2
      go_quiet (fail)
      go_wp2
      go_ret
      exact ⟨_, _, rfl, rfl, unhide R⟩
    · have R := hide (rb_drop (at' := at') (w := w) (B := p) hbB hl hcap hm' hlen hcell)
      go_enter Tryz.func136, Tryz.ntmps136
      go_wp2
      go_quiet (fail)
      go_wp2
      go_ret
      exact ⟨_, _, rfl, rfl, unhide R⟩
end Go.Proofs.YthphadbcebeoaaaGreatDoor
/- Contracts of wire.Uint at any slice, leastOf, and the reader's fail and upTo. -/
namespace Go.Proofs.YthphadbcebeoaaaGreatDoor
open Go.RowKit Go.Lib

set_option maxHeartbeats 1600000 in
theorem uint_nil (w : World) : Calls Tryz.prog 93 #[.slice none 0 0] w fun e w' => UPost 112 75 116 (decU []) w e w' := by
  have HD : Hid (decU [] = (0, 0, 22, 0)) := rfl
  generalize decU [] = r at *
  go_enter Tryz.func93, Tryz.ntmps93
  go_wp2
  refine wp_loop_rounds 1 ?_
  rw [rounds_succ]
  go_wp2_with (go_at_call 90; refine (fault_any 22 _ _).mono ?_; rintro e w' ⟨rfl, rfl⟩)
  go_ret3
  exact upost_form (c := 22) (k := 0) (by decide) HD.out

theorem uint_any (v : Value) (B : Nat) (l : List UInt8) (w : World) (hv : RBp w B v l) :
    Calls Tryz.prog 93 #[v] w fun e w' => UPost 112 75 116 (decU l) w e w' := by
  obtain ⟨hlen, ⟨rfl, rfl⟩ | ⟨b, off, cap, hbB, hcap, hm, rfl, hcell⟩⟩ := hv
  · exact uint_nil w
  · exact uint_row b off cap l w (Nat.le_trans hlen (by decide)) hcell

def accN : Nat → Nat → List UInt8 → Nat
  | _, acc, [] => acc
  | i, acc, c :: r => accN (i + 1) (acc + c.toNat % 128 * 2 ^ (7 * i)) r
/-- The least number that begins so. -/
def leastN (l : List UInt8) : Nat := if l = [] then 0 else 2 ^ (7 * l.length) + accN 0 0 l
theorem accN_lt : ∀ (l : List UInt8) (i acc : Nat), acc < 2 ^ (7 * i) → accN i acc l < 2 ^ (7 * (i + l.length))
  | [], i, acc, h => by simpa [accN] using h
  | c :: r, i, acc, h => by
    have := accN_lt r (i + 1) _ (acc_lt (d := c.toNat % 128) (by omega) h)
    rw [show i + (c :: r).length = i + 1 + r.length by simp; omega]; exact this
theorem leastN_lt {l : List UInt8} (h : l.length ≤ 9) : leastN l < 18446744073709551616 := by
  unfold leastN
  split
  · decide
  · have h1 := accN_lt l 0 0 (by simp)
    have h2 := pow64 h
    simp at h1; omega
theorem or_least {L k d acc : Nat} (hL : L ≤ 9) (hk : k < L) (hd : d < 128) (ha : acc < 2 ^ (7 * k)) :
    bits BinOp.or IntKind.u64 ((2 ^ (7 * L) + acc : Nat) : Int) ((d * 2 ^ (7 * k) : Nat) : Int) = ((2 ^ (7 * L) + (acc + d * 2 ^ (7 * k)) : Nat) : Int) := by
  have hp := pow64 hL
  have h1 := acc_lt hd ha
  have h2 : 2 ^ (7 * (k + 1)) ≤ 2 ^ (7 * L) := Nat.pow_le_pow_right (by decide) (by omega)
  have h3 : 2 ^ (7 * k) ≤ 2 ^ (7 * L) := Nat.pow_le_pow_right (by decide) (by omega)
  rw [bits_or_u64_nat _ _ (by omega) (by omega)]
  congr 1
  have e1 : 2 ^ (7 * L) + acc = 2 ^ (7 * L) ||| acc := by
    have := Nat.two_pow_add_eq_or_of_lt (i := 7 * L) (b := acc) (by omega) 1; simpa using this
  have e2 : acc ||| d * 2 ^ (7 * k) = acc + d * 2 ^ (7 * k) := by
    rw [Nat.or_comm, Nat.mul_comm d, ← Nat.two_pow_add_eq_or_of_lt ha, Nat.add_comm]
  have e3 : 2 ^ (7 * L) + (acc + d * 2 ^ (7 * k)) = 2 ^ (7 * L) ||| (acc + d * 2 ^ (7 * k)) := by
    have := Nat.two_pow_add_eq_or_of_lt (i := 7 * L) (b := acc + d * 2 ^ (7 * k)) (by omega) 1; simpa using this
  rw [e1, Nat.or_assoc, e2, e3]

theorem wrap_pow {L : Nat} (h : L ≤ 9) : IntKind.u64.wrap ((2 : Int) ^ (7 * L)) = ((2 ^ (7 * L) + 0 : Nat) : Int) := by
  have hp := pow64 h
  have e : ((2 : Int) ^ (7 * L)) = ((2 ^ (7 * L) : Nat) : Int) := by push_cast; rfl
  rw [e, IntKind.wrap_u64]
  generalize 2 ^ (7 * L) = q at *
  omega
theorem or_leastw {L k acc : Nat} {c : UInt8} (hL : L ≤ 9) (hk : k < L) (ha : acc < 2 ^ (7 * k)) :
    bits BinOp.or IntKind.u64 ((2 ^ (7 * L) + acc : Nat) : Int) (IntKind.u64.wrap (((c.toNat : Nat) : Int) % 128 * 2 ^ (7 * k))) = ((2 ^ (7 * L) + (acc + c.toNat % 128 * 2 ^ (7 * k)) : Nat) : Int) := by
  have hd : c.toNat % 128 < 128 := by omega
  have ht := term_lt (k := k) (by omega) hd (by omega)
  have e : (((c.toNat : Nat) : Int) % 128 * 2 ^ (7 * k)) = ((c.toNat % 128 * 2 ^ (7 * k) : Nat) : Int) := by
    push_cast; rfl
  rw [e, IntKind.wrap_u64, show ((c.toNat % 128 * 2 ^ (7 * k) : Nat) : Int) % 18446744073709551616 = ((c.toNat % 128 * 2 ^ (7 * k) : Nat) : Int) by omega]
  exact or_least hL hk hd ha

set_option maxHeartbeats 1600000 in
set_option maxRecDepth 100000 in
theorem least_row (b off cap : Nat) (l : List UInt8) (w : World) (hl : l.length ≤ 9) (hc : ∀ i, i < l.length → w.cell? ⟨b, off + i, none⟩ = some (.int .u8 ((l.getD i 0).toNat : Int))) (hne : 0 < l.length) :
    Calls Tryz.prog 137 #[.slice (some ⟨b, off, none⟩) l.length cap] w fun e w' => e = .returned (.int .u64 ((leastN l : Nat) : Int)) ∧ w' = w := by
  have HL : Hid (leastN l = 2 ^ (7 * l.length) + accN 0 0 l) := by unfold leastN; exact if_neg (by intro h; simp [h] at hne)
  have hb0 : ((l.length : Int) == 0) = false := beq_eq_false_iff_ne.2 (by omega)
  go_enter Tryz.func137, Tryz.ntmps137
  go_wp2
  go_loop [3, 15] (fun n i => ∃ (k acc : Nat), k ≤ l.length ∧ acc < 2 ^ (7 * k) ∧ i = .int .i64 k ∧ n = .int .u64 ((2 ^ (7 * l.length) + acc : Nat) : Int) ∧ accN 0 0 l = accN k acc (l.drop k)) (fun _ i => l.length - (intOf i).toNat)
  case atStart => exact ⟨0, 0, by omega, by simp, rfl, congrArg (Value.int .u64) (wrap_pow hl), rfl⟩
  case round =>
    obtain ⟨k, acc, hk, hacc, rfl, rfl, hdec⟩ := hrel
    by_cases hlt : k < l.length
    · have hcx := hc k hlt
      rw [drop_at l k hlt] at hdec
      generalize l.getD k 0 = c at *
      have hc256 : (c.toNat : Int) < 256 := by have := c.toNat_lt; omega
      have han := andNot128' c
      have HD : Hid (accN 0 0 l = accN (k + 1) (acc + c.toNat % 128 * 2 ^ (7 * k)) (l.drop (k + 1))) := hdec
      have HO := hide (or_leastw (c := c) hl hlt hacc)
      have HA := hide (acc_lt (d := c.toNat % 128) (by omega) hacc)
      clear hdec hc hacc
      generalize hpw : 2 ^ (7 * l.length) + acc = q at *
      clear hpw
      go_wp2
      go_round
      case rel => exact ⟨k + 1, _, by omega, unhide HA, by go_num, congrArg (Value.int .u64) (unhide HO), HD.out⟩
      case measure => simp [intOf]; omega
    · have hd : leastN l = 2 ^ (7 * l.length) + acc := by
        rw [HL.out, hdec, List.drop_eq_nil_of_le (by omega)]; rfl
      have HD := hide hd
      clear hd hdec HL
      go_wp2
      go_ret
      exact ⟨ret_int (by rw [unhide HD]; push_cast; rfl), rfl⟩

theorem least_any (v : Value) (B : Nat) (l : List UInt8) (w : World) (hl : l.length ≤ 9) (hv : RBp w B v l) :
    Calls Tryz.prog 137 #[v] w fun e w' => e = .returned (.int .u64 ((leastN l : Nat) : Int)) ∧ w' = w := by
  obtain ⟨hlen, ⟨rfl, rfl⟩ | ⟨b, off, cap, hbB, hcap, hm, rfl, hcell⟩⟩ := hv
  · go_enter Tryz.func137, Tryz.ntmps137
    go_wp2
    go_ret
    exact ⟨rfl, rfl⟩
  · by_cases hne : 0 < l.length
    · exact least_row b off cap l w hl hcell hne
    · have e : l = [] := List.eq_nil_of_length_eq_zero (by omega)
      subst e
      go_enter Tryz.func137, Tryz.ntmps137
      go_wp2
      go_ret
      exact ⟨rfl, rfl⟩
end Go.Proofs.YthphadbcebeoaaaGreatDoor
/- Contract of wire.Sum: four bits at a time, by the table. -/
namespace Go.Proofs.YthphadbcebeoaaaGreatDoor
open Go.RowKit Go.Lib

def tabL : List Nat := [0, 498536548, 997073096, 651767980, 1994146192, 1802195444, 1303535960, 1342533948, 3988292384, 4027552580, 3604390888, 3412177804, 2607071920, 2262029012, 2685067896, 3183342108]
/-- The table wire.sumSteps as the program's text lays it. -/
def ST (w : World) : Prop := ∀ i, i < 16 → w.cell? ⟨1, i, none⟩ = some (.int .u32 ((tabL.getD i 0 : Nat) : Int))
theorem tab_lt (i : Nat) : tabL.getD i 0 < 4294967296 := by
  rcases Nat.lt_or_ge i 16 with h | h
  · have : ∀ j : Fin 16, tabL.getD j.val 0 < 4294967296 := by decide
    exact this ⟨i, h⟩
  · rw [List.getD_eq_getElem?_getD, List.getElem?_eq_none (by simpa [tabL] using h)]; decide
theorem xor32 (a b : Nat) (ha : a < 4294967296) (hb : b < 4294967296) : bits BinOp.xor IntKind.u32 (a : Int) (b : Int) = ((a ^^^ b : Nat) : Int) := by
  have hx : a ^^^ b < 2 ^ 32 := Nat.xor_lt_two_pow (by omega) (by omega)
  have h1 : (BitVec.ofInt 32 (a : Int)).toNat = a := by
    rw [BitVec.ofInt_natCast, BitVec.toNat_ofNat]; exact Nat.mod_eq_of_lt (by omega)
  have h2 : (BitVec.ofInt 32 (b : Int)).toNat = b := by
    rw [BitVec.ofInt_natCast, BitVec.toNat_ofNat]; exact Nat.mod_eq_of_lt (by omega)
  show IntKind.u32.wrap ((BitVec.ofInt 32 (a : Int) ^^^ BitVec.ofInt 32 (b : Int)).toNat : Int) = _
  rw [BitVec.toNat_xor, h1, h2, IntKind.wrap_u32]
  omega
theorem and15 (a : Nat) (ha : a < 4294967296) : bits BinOp.and IntKind.u32 (a : Int) 15 = ((a % 16 : Nat) : Int) := by
  have h := bits_mask .u32 32 (by decide) wraps_u32 4 (by decide) (a : Int) (by omega) (by omega)
  have e : ((2 : Int) ^ 4 - 1) = 15 := by decide
  have e2 : ((2 : Int) ^ 4) = 16 := by decide
  rw [e, e2] at h
  rw [h]; omega
def step4 (s : Nat) : Nat := (s / 16) ^^^ tabL.getD (s % 16) 0
def byteStep (s : Nat) (c : UInt8) : Nat := step4 (step4 (s ^^^ c.toNat))
def crc (l : List UInt8) : Nat := 4294967295 - l.foldl byteStep 4294967295
theorem step4_lt {s : Nat} (h : s < 4294967296) : step4 s < 4294967296 := by
  unfold step4
  exact Nat.xor_lt_two_pow (n := 32) (by omega) (tab_lt _)
theorem xorc_lt {s : Nat} (h : s < 4294967296) (c : UInt8) : s ^^^ c.toNat < 4294967296 := Nat.xor_lt_two_pow (n := 32) h (by have := c.toNat_lt; omega)
theorem byteStep_lt {s : Nat} (h : s < 4294967296) (c : UInt8) : byteStep s c < 4294967296 := step4_lt (step4_lt (xorc_lt h c))
theorem crcs_lt (l : List UInt8) : ∀ s, s < 4294967296 → l.foldl byteStep s < 4294967296 := by
  induction l with
  | nil => intro s h; exact h
  | cons c r ih => intro s h; exact ih _ (byteStep_lt h c)

theorem xor_ones32 (b : Nat) (hb : b < 2 ^ 32) : (2 ^ 32 - 1) ^^^ b = 2 ^ 32 - 1 - b := by
  apply Nat.eq_of_testBit_eq
  intro i
  rw [Nat.testBit_xor, Nat.testBit_two_pow_sub_one, show 2 ^ 32 - 1 - b = 2 ^ 32 - (b + 1) by omega, Nat.testBit_two_pow_sub_succ hb]
  by_cases hi : i < 32
  · simp [hi]
  · have : b.testBit i = false := Nat.testBit_lt_two_pow (Nat.lt_of_lt_of_le hb (Nat.pow_le_pow_right (by decide) (by omega)))
    simp [hi, this]
theorem not32 (q : Nat) (hq : q < 4294967296) : bits BinOp.xor IntKind.u32 IntKind.u32.max (q : Int) = ((4294967295 - q : Nat) : Int) := by
  have e : IntKind.u32.max = ((4294967295 : Nat) : Int) := by decide
  rw [e, xor32 _ q (by decide) hq]
  congr 1
  exact xor_ones32 q hq

set_option maxHeartbeats 1600000 in
set_option maxRecDepth 100000 in
theorem sum_row (b off cap : Nat) (l : List UInt8) (w : World) (hl : l.length ≤ maxLen) (hc : ∀ i, i < l.length → w.cell? ⟨b, off + i, none⟩ = some (.int .u8 ((l.getD i 0).toNat : Int))) (hT : ST w) :
    Calls Tryz.prog 92 #[.slice (some ⟨b, off, none⟩) l.length cap] w fun e w' => e = .returned (.int .u32 ((crc l : Nat) : Int)) ∧ w' = w := by
  unfold maxLen at hl
  go_enter Tryz.func92, Tryz.ntmps92
  go_wp2
  go_loop [3, 8] (fun s i => ∃ k q : Nat, k ≤ l.length ∧ i = .int .i64 k ∧ s = .int .u32 q ∧ q < 4294967296 ∧ q = (l.take k).foldl byteStep 4294967295) (fun _ i => l.length - (intOf i).toNat)
  case atStart => exact ⟨0, 4294967295, by omega, rfl, rfl, by decide, rfl⟩
  case round =>
    obtain ⟨k, q, hk, rfl, rfl, hq, hqe⟩ := hrel
    by_cases hlt : k < l.length
    · have hcx := hc k hlt
      have hq1 : (l.take (k + 1)).foldl byteStep 4294967295 = byteStep q (l.getD k 0) := by
        rw [List.take_add_one, List.getElem?_eq_getElem hlt, Option.toList_some, List.foldl_append, ← hqe]
        simp [List.getD_eq_getElem?_getD, hlt]
      have HQ := hide hq1
      clear hq1
      generalize l.getD k 0 = c at *
      have hc256 : (c.toNat : Int) < 256 := by have := c.toNat_lt; omega
      have hx1 := xorc_lt hq c
      have e1 := xor32 q c.toNat hq (by omega)
      unfold byteStep at HQ
      generalize q ^^^ c.toNat = x1 at *
      have e2 := and15 x1 hx1
      have t1 := hT (x1 % 16) (by omega)
      have hi1 : ((x1 % 16 : Nat) : Int) < 16 := by omega
      have hs1 := step4_lt hx1
      have e3 : bits BinOp.xor IntKind.u32 ((x1 : Int) / 16) ((tabL.getD (x1 % 16) 0 : Nat) : Int) = ((step4 x1 : Nat) : Int) := xor32 (x1 / 16) _ (by omega) (tab_lt _)
      generalize tabL.getD (x1 % 16) 0 = y1 at *
      generalize x1 % 16 = i1 at *
      generalize step4 x1 = s1 at *
      have e4 := and15 s1 hs1
      have t2 := hT (s1 % 16) (by omega)
      have hi2 : ((s1 % 16 : Nat) : Int) < 16 := by omega
      have hs2 := step4_lt hs1
      have e5 : bits BinOp.xor IntKind.u32 ((s1 : Int) / 16) ((tabL.getD (s1 % 16) 0 : Nat) : Int) = ((step4 s1 : Nat) : Int) := xor32 (s1 / 16) _ (by omega) (tab_lt _)
      generalize tabL.getD (s1 % 16) 0 = y2 at *
      generalize s1 % 16 = i2 at *
      generalize step4 s1 = s2 at *
      clear hqe hc hT
      go_wp2
      go_round
      case rel => exact ⟨k + 1, s2, by omega, by go_num, rfl, hs2, (unhide HQ).symm⟩
      case measure => simp [intOf]; omega
    · have e : l.take k = l := List.take_of_length_le (by omega)
      rw [e] at hqe
      have HQ := hide hqe
      clear hqe hc hT
      go_wp2
      go_ret
      exact ⟨ret_int (by rw [not32 q hq, unhide HQ]; rfl), rfl⟩

theorem sum_any (v : Value) (B : Nat) (l : List UInt8) (w : World) (hv : RBp w B v l) (hT : ST w) :
    Calls Tryz.prog 92 #[v] w fun e w' => e = .returned (.int .u32 ((crc l : Nat) : Int)) ∧ w' = w := by
  obtain ⟨hlen, ⟨rfl, rfl⟩ | ⟨b, off, cap, hbB, hcap, hm, rfl, hcell⟩⟩ := hv
  · clear hT
    go_enter Tryz.func92, Tryz.ntmps92
    go_wp2
    refine wp_loop_rounds 1 ?_
    rw [rounds_succ]
    go_wp2
    go_ret
    exact ⟨rfl, rfl⟩
  · exact sum_row b off cap l w (Nat.le_trans hlen (by decide)) hcell hT
end Go.Proofs.YthphadbcebeoaaaGreatDoor
