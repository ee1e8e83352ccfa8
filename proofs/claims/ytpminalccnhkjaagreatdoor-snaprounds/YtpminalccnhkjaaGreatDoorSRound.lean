/- SnapRounds: what each of its calls does. -/
import Derived.Test.YtpminalccnhkjaaGreatDoorJDKnownSKnown
namespace Go.Proofs.YtpminalccnhkjaaGreatDoor
open Go.RowKit Go.Lib

def mnN : ByteArray := ⟨#[109, 105, 110, 101]⟩
def kept : List UInt8 := [107, 101, 112, 116]
def SR (c : Int) : Dk.St := ⟨1048576, c, false, false, 0⟩
def sd (size r : Nat) : List UInt8 := List.replicate size r.toUInt8
def fbR (size r : Nat) : List UInt8 := frameBytes (snB r 1 (sd size r))
def mnE : Dk.Ent := Dk.fl mnN.data.toList kept 4
def FR (size : Nat) : Nat → List Dk.Ent
  | 0 => [mnE]
  | r + 1 => [mnE, Dk.fl snN.data.toList (fbR size r) (fbR size r).length]
theorem fbR_len {size r : Nat} (hs : size ≤ 2000) (hr : r < 40) : (fbR size r).length ≤ 2030 := by
  have h1 := uvarint_length64 (x := r) (by omega)
  have h2 := uvarint_length64 (x := 1) (by decide)
  simp [fbR, frameBytes, word4_length, snB, sd]; omega
theorem putR (size r : Nat) : Dk.putE (Dk.fl snN.data.toList (fbR size r) (fbR size r).length) (FR size r) = FR size (r + 1) := by
  cases r <;> rfl
theorem fallR (size r : Nat) : Dk.fallF [] 0 (FR size r) = FR size r := by
  cases r with
  | zero => rfl
  | succ r =>
    simp only [FR, Dk.fallF, Dk.leftN, mnE, Dk.fl]
    simp [kept]
theorem lookR_new (size r : Nat) : Dk.look (FR size r) nwN.data.toList = none := by cases r <;> rfl
theorem appR {size r : Nat} (c : Int) (hs : size ≤ 2000) (hr : r < 40) : Dk.appC (SR c) (FR size r) nwN.data.toList (fbR size r).length = 0 := by
  have h1 := fbR_len hs hr
  unfold Dk.appC
  rw [lookR_new]
  have h2 : Dk.anotherC (FR size r) nwN.data.toList = 0 := by cases r <;> rfl
  simp only [h2, if_true]
  have h3 : Dk.usedL (FR size r) ≤ 3000 := by
    cases r with
    | zero => simp [Dk.usedL, FR, mnE, Dk.fl, kept]
    | succ r =>
      have := fbR_len (r := r) hs (by omega)
      simp [Dk.usedL, FR, mnE, Dk.fl, kept]; omega
  rw [if_pos]
  unfold Dk.fitsB SR
  simp; omega
theorem keep_mn (th : Bool) : keepN th mnE.name = true := by
  have h : preN ⟨mnE.name.toArray⟩ = false := by kernel_rfl
  unfold keepN
  rw [h]
  rfl
theorem keep_sn : keepN true snN.data.toList = true := by
  unfold keepN
  simp [snN]
theorem keepR (size r : Nat) : ∀ e ∈ FR size r, keepN (decide (0 < r)) e.name = true := by
  cases r with
  | zero => intro e he; simp [FR] at he; subst he; exact keep_mn _
  | succ r =>
    intro e he
    simp [FR] at he
    rcases he with rfl | rfl
    · exact keep_mn _
    · show keepN _ snN.data.toList = true
      simp only [Nat.zero_lt_succ, decide_true]; exact keep_sn
theorem nameR (size r : Nat) : ∀ e ∈ FR size r, e.name.length ≤ 1000 := by
  cases r with
  | zero => intro e he; simp [FR] at he; subst he; decide
  | succ r =>
    intro e he
    simp [FR] at he
    rcases he with rfl | rfl
    · decide
    · show snN.data.toList.length ≤ 1000; decide
theorem hasR (size r : Nat) (c : Int) : Has (SR c) (FR size (r + 1)) r 1 (sd size r) := ⟨rfl, Dk.fl snN.data.toList (fbR size r) (fbR size r).length, rfl, rfl⟩

/-- The disk, in blocks from w's end on, and a row of bytes apart from it. -/
def SDX (w wr : World) (p : Nat) (c : Int) (F : List Dk.Ent) (v : Value) (l : List UInt8) : Prop := ∃ O, Dk.DX wr p (SR c) F O ∧ (∀ k, O k → w.heap.size ≤ k) ∧ Below w.heap.size w wr ∧ Dk.RBo wr O v l
theorem RBo.re {w w' : World} {O O' : Nat → Prop} {v : Value} {l : List UInt8} (h : Dk.RBo w O v l) (hf : Dk.FrO O w w') (ho : ∀ k, O' k → O k ∨ w.heap.size ≤ k) : Dk.RBo w' O' v l := by
  obtain ⟨h1, h2 | ⟨b, off, cap, hb, hn, h3, h4, rfl, hc⟩⟩ := h
  · exact ⟨h1, .inl h2⟩
  · exact ⟨h1, .inr ⟨b, off, cap, Nat.lt_of_lt_of_le hb hf.size, fun hh => (ho b hh).elim hn (fun hx => absurd hb (Nat.not_lt.2 hx)), h3, h4, rfl, fun i hi => (Dk.cell_same (hf.blk b hb hn) _).trans (hc i hi)⟩⟩
theorem RBo.rb {w : World} {O : Nat → Prop} {v : Value} {l : List UInt8} (h : Dk.RBo w O v l) : RBp w w.heap.size v l := by
  obtain ⟨h1, h2 | ⟨b, off, cap, hb, hn, h3, h4, rfl, hc⟩⟩ := h
  · exact ⟨by omega, .inl h2⟩
  · exact ⟨by omega, .inr ⟨b, off, cap, hb, h3, h4, rfl, hc⟩⟩

theorem r_save {w wr : World} {p size r : Nat} {v : Value} (hE : ET w) (hT : ST w) (hs : size ≤ 2000) (hr : r < 40) (h : SDX w wr p (2 + 3 * (r : Int)) (FR size r) v (sd size r)) :
    Calls Tryz.prog 10 #[.pointer (some ⟨p, 0, none⟩), .agg #[.int .u64 (r : Int), .int .u64 1, v]] wr fun e w' => e = .returned .nilIface ∧ SDX w w' p (2 + 3 * ((r + 1 : Nat) : Int)) (FR size (r + 1)) v (sd size r) := by
  obtain ⟨O, hd, hO, hb, hv⟩ := h
  have hl : (sd size r).length ≤ 262080 := by simp [sd]; omega
  have hH : Older (SR (2 + 3 * (r : Int))) (FR size r) (decide (0 < r)) r := by
    cases r with
    | zero => exact .inl ⟨rfl, rfl⟩
    | succ r => exact .inr ⟨by simp, r, 1, sd size r, hasR size r _, by omega, by decide, by simp [sd]; omega⟩
  refine (save_ok (n := 0) (i := r) (t := 1) v (sd size r) hd (hE.below hb hE.lt) (hT.below hb hT.lt) (fun hh => absurd hE.lt (Nat.not_lt.2 (hO _ hh))) ⟨rfl, rfl, by show (0 : Int) ≤ 1048576; decide, by show (1048576 : Int) ≤ 4611686018427387904; decide, by show (0 : Int) ≤ 2 + 3 * (r : Int); omega, by show (2 + 3 * (r : Int)) + ((0 + 3 : Nat) : Int) < 1000000000; omega⟩ (RBo.rb hv) hl (by omega) (by decide) hH (keepR size r) (nameR size r) (lookR_new size r) (appR _ hs hr)).mono ?_
  rintro e w' ⟨O', rfl, hx, hf, ho⟩
  refine ⟨rfl, O', ?_, fun k hk => (ho k hk).elim (hO k) (fun hx => Nat.le_trans hb.size hx), below_fro hb hf hO (Nat.le_refl _), RBo.re hv hf ho⟩
  have e1 : Dk.more (SR (2 + 3 * (r : Int))) 3 = SR (2 + 3 * ((r + 1 : Nat) : Int)) := by
    unfold Dk.more SR
    congr 1
  rw [e1] at hx
  have := putR size r
  unfold fbR at this
  rw [this] at hx
  exact hx
theorem r_crash {w wr : World} {p size r : Nat} {c : Int} {v : Value} {l : List UInt8} (h : SDX w wr p c (FR size r) v l) :
    Calls Tryz.prog 11 #[.pointer (some ⟨p, 0, none⟩), .agg #[.slice none 0 0]] wr fun e w' => e = .returned (.tuple #[]) ∧ SDX w w' p c (FR size r) v l := by
  obtain ⟨O, hd, hO, hb, hv⟩ := h
  refine (Dk.dx_crash (.slice none 0 0) [] hd (Dk.keep_nil _ _) (by decide) (nameR size r)).mono ?_
  rintro e w' ⟨rfl, hx, hf⟩
  rw [fallR] at hx
  exact ⟨rfl, O, hx, hO, below_fro hb hf hO (Nat.le_refl _), hv.fr hf⟩
theorem bytes_rb {w : World} {v v' : Value} {B B' : Nat} {l : List UInt8} (h : RBp w B v l) (h' : RBp w B' v' l) :
    Calls Tryz.prog 13 #[v, v'] w fun e w' => e = .returned (.bool true) ∧ w' = w := by
  have c1 := conv_any _ _ _ _ h
  have c2 := conv_any _ _ _ _ h'
  go_enter Tryz.func13, Tryz.ntmps13
  go_wp2
  go_ret
  exact ⟨rfl, rfl⟩
theorem SDX.below {w wr w' : World} {p : Nat} {c : Int} {F : List Dk.Ent} {v : Value} {l : List UInt8} (h : SDX w wr p c F v l) (hb2 : Below wr.heap.size wr w') : SDX w w' p c F v l := by
  obtain ⟨O, hd, hO, hb, hv⟩ := h
  exact ⟨O, hd.below hb2, hO, bt hb hb2, hv.fr (Dk.FrO.of_below hb2)⟩
theorem r_load {w wr : World} {p size r : Nat} {c : Int} {v : Value} (hE : ET w) (hT : ST w) (hs : size ≤ 2000) (hr : r < 40) (h : SDX w wr p c (FR size (r + 1)) v (sd size r)) :
    Calls Tryz.prog 12 #[.pointer (some ⟨p, 0, none⟩)] wr fun e w' => ∃ da n dk, e = .returned (.tuple #[.agg #[.int .u64 (r : Int), .int .u64 1, .slice da n dk], .bool true, .nilIface]) ∧ SDX w w' p c (FR size (r + 1)) v (sd size r) ∧ (∀ W, Below w'.heap.size w' W → Calls Tryz.prog 13 #[.slice da n dk, v] W fun e w'' => e = .returned (.bool true) ∧ w'' = W) := by
  have h' := h
  obtain ⟨O, hd, hO, hb, hv⟩ := h
  refine (load_some (i := r) (t := 1) (l := sd size r) hd (hE.below hb hE.lt) (hT.below hb hT.lt) (hasR size r c) (by simp [sd]; omega) (by omega) (by decide)).mono ?_
  rintro e w' ⟨d, rfl, hx, hb2⟩
  obtain ⟨da, dk, rfl⟩ := hx.slice
  refine ⟨da, _, dk, rfl, h'.below hb2, fun W hW => bytes_rb (RBn.later hx hW).rb (B' := W.heap.size) ?_⟩
  exact rb_later (rb_later (RBo.rb hv) hb2 hb2.size) hW hW.size
end Go.Proofs.YtpminalccnhkjaaGreatDoor
