/- SnapPlays: bytes that came in, the statement's helps Spoil, Bytes, same. -/
import Derived.Test.YtpminalccnhkjaaGreatDoorSXSave2
namespace Go.Proofs.YtpminalccnhkjaaGreatDoor
open Go.RowKit Go.Lib Go.Maps

/-- Bytes apart from O's blocks; where there are none they may lie anywhere. -/
def RZ (w : World) (O : Nat → Prop) (v : Value) (l : List UInt8) : Prop := Dk.RBo w O v l ∨ (l = [] ∧ ∃ ad c, v = .slice (some ad) 0 c ∧ c ≤ maxLen)
theorem RZ.slice {w : World} {O : Nat → Prop} {v : Value} {l : List UInt8} (h : RZ w O v l) : ∃ a k, v = .slice a l.length k := by
  rcases h with ⟨_, ⟨rfl, rfl⟩ | ⟨b, off, cap, _, _, _, _, rfl, _⟩⟩ | ⟨rfl, ad, c, rfl, _⟩
  · exact ⟨none, 0, rfl⟩
  · exact ⟨_, _, rfl⟩
  · exact ⟨_, _, rfl⟩
theorem RZ.fr {w w' : World} {O : Nat → Prop} {v : Value} {l : List UInt8} (h : RZ w O v l) (hf : Dk.FrO O w w') : RZ w' O v l := by
  rcases h with h | h
  · exact .inl (rbo_re h hf (fun k hk => .inl hk))
  · exact .inr h
theorem RZ.re {w w' : World} {O O' : Nat → Prop} {v : Value} {l : List UInt8} (h : RZ w O v l) (hf : Dk.FrO O w w') (ho : ∀ k, O' k → O k ∨ w.heap.size ≤ k) : RZ w' O' v l := by
  rcases h with h | h
  · exact .inl (rbo_re h hf ho)
  · exact .inr h
theorem conv_empty (ad : Addr) (c : Nat) (w : World) : (convert 29 9 (.slice (some ad) 0 c)).run Tryz.prog w = .ok (.string ⟨#[]⟩) w := by kernel_rfl
theorem conv_z {w : World} {O : Nat → Prop} {v : Value} {l : List UInt8} (h : RZ w O v l) : (convert 29 9 v).run Tryz.prog w = .ok (.string ⟨l.toArray⟩) w := by
  rcases h with ⟨h1, h2 | ⟨b, off, cap, hb, hn, h3, h4, rfl, hc⟩⟩ | ⟨rfl, ad, c, rfl, _⟩
  · exact conv_any v 0 l w ⟨by omega, .inl h2⟩
  · exact conv_any _ w.heap.size l w ⟨by omega, .inr ⟨b, off, cap, hb, h3, h4, rfl, hc⟩⟩
  · exact conv_empty ad c w
theorem rz_rbo {w : World} {O : Nat → Prop} {v : Value} {l : List UInt8} (h : Dk.RBo w O v l) : RZ w O v l := .inl h
/-- 'append(own, bytes...)', where the bytes came in. -/
theorem wpList_append_z {w : World} {ops : Array Oper} {rest : List Oper} {o : Oper} {a : Act} {Q : Exit → Act → World → Prop} (hgd : o.guard = none) (s x : Operand)
    (ho : o.op = .call { callee := .builtin .append, args := #[s, x], argTypes := #[29, 29] })
    (v : Value) (n : Nat) (xs : List Value) (hs : a.eval s = v) (hown : w.ownsRow 0 5 1 v n xs)
    (O : Nat → Prop) (xv : Value) (lx : List UInt8) (hx : a.eval x = xv) (hrb : RZ w O xv lx) (hn : n ≤ 1000000000)
    (h : ∀ v' w', w'.ownsRow 0 5 1 v' (n + lx.length) (xs ++ byteCells lx) → w.grownBy w' v.ownBlock → (v'.ownBlock = v.ownBlock ∨ v'.ownBlock = some w.heap.size) → wpList Tryz.prog ops Q rest (a.put o.dst v') w') : wpList Tryz.prog ops Q (o :: rest) a w := by
  rcases hrb with hrb | ⟨rfl, ad, c, rfl, hcm⟩
  · exact Dk.wpList_append_at hgd s x ho v n xs hs hown O xv lx hx hrb hn h
  · obtain ⟨i0, hi, hz0, hz1, hz2⟩ := info_parts Tryz.infoB
    exact wpList_append_own_at w hgd s x 29 ho 0 5 i0 (.int .u8 0) 1 1 Tryz.underlying29 hi hz0 hz1 hz2 rfl (by decide) v n xs hs hown ad 0 c [] hx rfl (fun j u hj => by simp at hj) (fun u hu => by cases hu) (by unfold maxLen; omega) (by omega) (Nat.zero_le _) (fun v' w' h1 h2 _ h3 => h v' w' h1 h2 h3)
theorem bytes_z {w : World} {O O' : Nat → Prop} {v v' : Value} {l l' : List UInt8} (h : RZ w O v l) (h' : RZ w O' v' l') :
    Calls Tryz.prog 13 #[v, v'] w fun e w' => e = .returned (.bool (l == l')) ∧ w' = w := by
  have c1 := conv_z h
  have c2 := conv_z h'
  cases hq : l == l'
  · go_enter Tryz.func13, Tryz.ntmps13
    go_wp2
    go_ret
    exact ⟨by simp, rfl⟩
  · obtain rfl : l = l' := by simpa using hq
    go_enter Tryz.func13, Tryz.ntmps13
    go_wp2
    go_ret
    exact ⟨rfl, rfl⟩
set_option maxHeartbeats 1600000 in
/-- Two snapshots held against one another. -/
theorem same_z {w : World} {O O' : Nat → Prop} {i t n i' t' n' k k' : Nat} {a b : Option Addr} {l l' : List UInt8} (h : RZ w O (.slice a n k) l) (h' : RZ w O' (.slice b n' k') l') :
    Calls Tryz.prog 18 #[.agg #[.int .u64 (i : Int), .int .u64 (t : Int), .slice a n k], .agg #[.int .u64 (i' : Int), .int .u64 (t' : Int), .slice b n' k']] w fun e w' => e = .returned (.bool (decide (((i, t, l) : Sn) = (i', t', l')))) ∧ Below w.heap.size w w' := by
  have hb : Below w.heap.size w ((w.alloc (.cells #[.int .u64 (i : Int), .int .u64 (t : Int), .slice a n k] 34)).alloc (.cells #[.int .u64 (i' : Int), .int .u64 (t' : Int), .slice b n' k'] 34)) := ((Below.refl _ _).alloc (Nat.le_refl _) _).alloc (by simp) _
  have HB := hide hb
  have H := hide (bytes_z (h.re (Dk.FrO.of_below hb) (fun k hk => .inl hk)) (h'.re (Dk.FrO.of_below hb) (fun k hk => .inl hk)))
  clear hb h h'
  by_cases h1 : i = i'
  · subst h1
    by_cases h2 : t = t'
    · subst h2
      by_cases h3 : l = l'
      · subst h3
        have e : (l == l) = true := by simp
        rw [e] at H
        go_enter Tryz.func18, Tryz.ntmps18
        go_wp2_with (go_at_call 13; refine (unhide H).mono ?_; rintro e w1 ⟨rfl, rfl⟩)
        go_ret
        exact ⟨by simp, unhide HB⟩
      · have e : (l == l') = false := by simpa using h3
        rw [e] at H
        have hne : decide (((i, t, l) : Sn) = (i, t, l')) = false := by simp [h3]
        rw [hne]
        go_enter Tryz.func18, Tryz.ntmps18
        go_wp2_with (go_at_call 13; refine (unhide H).mono ?_; rintro e w1 ⟨rfl, rfl⟩)
        go_ret
        exact ⟨rfl, unhide HB⟩
    · have e : ((t : Int) == (t' : Int)) = false := by simp; omega
      have hne : decide (((i, t, l) : Sn) = (i, t', l')) = false := by simp [h2]
      rw [hne]
      clear H
      go_enter Tryz.func18, Tryz.ntmps18
      go_wp2
      go_ret
      exact ⟨rfl, unhide HB⟩
  · have e : ((i : Int) == (i' : Int)) = false := by simp; omega
    have hne : decide (((i, t, l) : Sn) = (i', t', l')) = false := by simp [h1]
    rw [hne]
    clear H
    go_enter Tryz.func18, Tryz.ntmps18
    go_wp2
    go_ret
    exact ⟨rfl, unhide HB⟩
theorem own_cellsP {w : World} {B : Nat} {T : TypeId} {v : Value} {n : Nat} {xs : List Value} (h : w.ownsRow B T 1 v n xs) : (v = .slice none 0 0 ∧ n = 0) ∨ ∃ g cap cur, v = .slice (some ⟨g, 0, none⟩) n cap ∧ w.heap[g]? = some (.cells cur T (0, 0)) ∧ n ≤ cur.size := by
  rcases h.2 with ⟨h1, h2⟩ | ⟨g, cap, cur, h1, hB, hc, h3, h4, h5, h6⟩
  · exact .inl ⟨h1, h2⟩
  · refine .inr ⟨g, cap, cur, h1, hc, ?_⟩
    have := congrArg List.length h6
    have h7 := h.1
    simp at this
    omega
set_option maxHeartbeats 1600000 in
set_option maxRecDepth 100000 in
theorem spoil_any {w : World} {v : Value} {B : Nat} {n : Nat} {xs : List Value} (h : w.ownsRow B 5 1 v n xs) (hl : n ≤ 2000000) :
    Calls Tryz.prog 16 #[v] w fun e w' => e = .returned (.tuple #[]) ∧ Dk.FrO (fun k => v.ownBlock = some k) w w' := by
  have hl' : (n : Int) ≤ 2000000 := by omega
  rcases own_cellsP h with ⟨rfl, rfl⟩ | ⟨g, cap, cur, rfl, hcur, hsz⟩
  · clear h
    go_enter Tryz.func16, Tryz.ntmps16
    go_wp2
    refine wp_loop_rounds 1 ?_
    rw [rounds_succ]
    go_wp2
    go_end0
    exact ⟨rfl, Dk.FrO.refl _ _⟩
  · have HC : Hid (∀ (wr : World) (k : Nat) (cr : Array Value), wr.heap[g]? = some (.cells cr 5 (0, 0)) → n ≤ cr.size → k < n → ∃ x, wr.cell? ⟨g, k, none⟩ = some x ∧ wr.frozen? ⟨g, k, none⟩ = false) := fun wr k cr hc hn hk => by
      refine ⟨cr[k]'(by omega), ?_, (Dk.cellB hc k).2⟩
      rw [(Dk.cellB hc k).1]
      exact Array.getElem?_eq_getElem (by omega)
    clear h
    go_enter Tryz.func16, Tryz.ntmps16
    go_wp2
    go_loopw [2] (fun i wr => ∃ k : Nat, k ≤ n ∧ i = .int .i64 k ∧ Hid (Dk.FrO (fun q => (Value.slice (some ⟨g, 0, none⟩) n cap).ownBlock = some q) w wr) ∧ Hid (∃ cr : Array Value, wr.heap[g]? = some (.cells cr 5 (0, 0)) ∧ n ≤ cr.size)) (fun i _ => n - (intOf i).toNat)
    case atStart => exact ⟨0, by omega, rfl, Dk.FrO.refl _ _, cur, hcur, hsz⟩
    case round =>
      obtain ⟨k, hk, rfl, hf, hc⟩ := hrel
      by_cases hlt : k < n
      · obtain ⟨cr, hcr, hcs⟩ := unhide hc
        obtain ⟨x, c0, f0⟩ := unhide HC wr k cr hcr hcs hlt
        have hki : (k : Int) < (n : Int) := by omega
        have hk0 : (0 : Int) ≤ (k : Int) := by omega
        have HS : Hid (∃ cr' : Array Value, (wr.setCell ⟨g, k, none⟩ (.int .u8 238)).heap[g]? = some (.cells cr' 5 (0, 0)) ∧ n ≤ cr'.size) := ⟨_, Dk.heap_setCell_at hcr k _, by simpa using hcs⟩
        clear hcr HC
        go_wp2
        go_roundw
        case rel => exact ⟨k + 1, by omega, by go_num, (unhide hf).set rfl k _, unhide HS⟩
        case measure => simp [intOf]; omega
      · have hki : ¬ (k : Int) < (n : Int) := by omega
        clear HC
        go_wp2
        go_end0
        exact ⟨rfl, unhide hf⟩
end Go.Proofs.YtpminalccnhkjaaGreatDoor
/- SnapPlays: the calls of one round. -/
namespace Go.Proofs.YtpminalccnhkjaaGreatDoor
open Go.RowKit Go.Lib

/-- What is told where there is none. -/
def nowS (o : Option Sn) : Sn := o.getD (0, 0, [])
theorem fro_weak {O O' : Nat → Prop} {w w' : World} (h : Dk.FrO O w w') (ho : ∀ k, O k → O' k) : Dk.FrO O' w w' := ⟨h.size, fun k hk hn => h.blk k hk (fun hh => hn (ho k hh)), h.env⟩
theorem keep_re {w w' : World} {O O' : Nat → Prop} {v : Value} {ks : List Int} (h : Dk.KeepAt w O v ks) (hf : Dk.FrO O w w') (ho : ∀ k, O' k → O k ∨ w.heap.size ≤ k) : Dk.KeepAt w' O' v ks := by
  obtain ⟨h1, h2 | ⟨b, off, cap, hb, hn, h3, h4, rfl, hc⟩⟩ := h
  · exact ⟨h1, .inl h2⟩
  · exact ⟨h1, .inr ⟨b, off, cap, Nat.lt_of_lt_of_le hb hf.size, fun hh => (ho b hh).elim hn (fun hx => absurd hb (Nat.not_lt.2 hx)), h3, h4, rfl, fun i x hi => (Dk.cell_same (hf.blk b hb hn) _).trans (hc i x hi)⟩⟩
/-- The data that the round reads: what was told last, the step's bytes, what is kept. -/
def DT (W : World) (Z : Nat → Prop) (va : Value) (la : List UInt8) (vx : Value) (lx : List UInt8) (kv : Value) (ks : List Int) : Prop := RZ W Z va la ∧ RZ W Z vx lx ∧ Dk.KeepAt W Z kv ks
theorem DT.re {W W' : World} {Z Z' : Nat → Prop} {va vx kv : Value} {la lx : List UInt8} {ks : List Int} (h : DT W Z va la vx lx kv ks) (hf : Dk.FrO Z W W') (ho : ∀ k, Z' k → Z k ∨ W.heap.size ≤ k) : DT W' Z' va la vx lx kv ks :=
  ⟨h.1.re hf ho, h.2.1.re hf ho, keep_re h.2.2 hf ho⟩
theorem DT.less {W : World} {Z Z' : Nat → Prop} {va vx kv : Value} {la lx : List UInt8} {ks : List Int} (h : DT W Z va la vx lx kv ks) (ho : ∀ k, Z' k → Z k) : DT W Z' va la vx lx kv ks := h.re (Dk.FrO.refl _ _) (fun k hk => .inl (ho k hk))
/-- A block that a change leaves. -/
theorem blk_kept {O : Nat → Prop} {W W' : World} {b : Nat} {x : Obj} (h : W.heap[b]? = some x) (hf : Dk.FrO O W W') (hb : ¬ O b) : W'.heap[b]? = some x := (hf.blk b (Array.getElem?_eq_some_iff.1 h).1 hb).trans h
theorem Sv.kept {O : Nat → Prop} {W W' : World} {b : Nat} {x y z : Value} (h : Sv W b x y z) (hf : Dk.FrO O W W') (hb : ¬ O b) : Sv W' b x y z := blk_kept h hf hb

/-- What stands at the head of the statement's loop: its disk, and what was told last in the variable q. -/
def HD (w wr : World) (p q m : Nat) (o : Option Sn) (da : Option Addr) (n dk : Nat) : Prop :=
  ∃ S g O, Dk.DX wr p S (FS o g) O ∧ gOk g ∧ oOk o ∧ Okk S m ∧ S.off = false ∧ S.halting = false ∧ (∀ k, O k → w.heap.size ≤ k ∧ k ≠ q) ∧ Below w.heap.size w wr ∧ w.heap.size ≤ q ∧
    Sv wr q (.int .u64 ((nowS o).1 : Int)) (.int .u64 ((nowS o).2.1 : Int)) (.slice da n dk) ∧ Dk.RBo wr (fun k => O k ∨ k = q) (.slice da n dk) (nowS o).2.2
theorem set3_fr {O : Nat → Prop} {W : World} {q : Nat} (hq : O q) (x y z : Value) : Dk.FrO O W (((W.setCell ⟨q, 0, none⟩ x).setCell ⟨q, 1, none⟩ y).setCell ⟨q, 2, none⟩ z) :=
  (((Dk.FrO.refl O W).set hq 0 x).set hq 1 y).set hq 2 z
theorem hd_end {w W : World} {p q m n dk : Nat} {S : Dk.St} {o : Option Sn} {g : Option (List UInt8 × Nat)} {O : Nat → Prop} {da : Option Addr} {x y z : Value} (h : Dk.DX W p S (FS o g) O) (hg : gOk g) (ho : oOk o) (hS : Okk S m) (h1 : S.off = false) (h2 : S.halting = false) (hO : ∀ k, O k → w.heap.size ≤ k ∧ k ≠ q) (hb : Below w.heap.size w W) (hq : w.heap.size ≤ q)
    (hv : Sv W q x y z) (hr : Dk.RBo W (fun k => O k ∨ k = q) (.slice da n dk) (nowS o).2.2) :
    HD w (((W.setCell ⟨q, 0, none⟩ (.int .u64 ((nowS o).1 : Int))).setCell ⟨q, 1, none⟩ (.int .u64 ((nowS o).2.1 : Int))).setCell ⟨q, 2, none⟩ (.slice da n dk)) p q m o da n dk := by
  have hf : Dk.FrO (fun k => O k ∨ k = q) W _ := set3_fr (.inr rfl) (.int .u64 ((nowS o).1 : Int)) (.int .u64 ((nowS o).2.1 : Int)) (.slice da n dk)
  refine ⟨S, g, O, ?_, hg, ho, hS, h1, h2, hO, set3_below hb hq _ _ _, hq, Dk.heap_setCell_at (Dk.heap_setCell_at (Dk.heap_setCell_at hv 0 _) 1 _) 2 _, rbo_re hr hf (fun k hk => .inl hk)⟩
  exact h.fr (by rw [set3_size]; exact Nat.le_refl _) (fun k hk => set3_block W q k _ _ _ (fun e => (hO k hk).2 e))

/-- What the statement asks behind a Load: whether it is the snapshot that was told last, whether it is the next one. -/
def LD (w W11 : World) (p q m bn : Nat) (o : Option Sn) (A B : Sn) (va vb : Value) (sa : Option Addr) (sn sk : Nat) : Prop :=
  ∀ W, Below (W11.alloc (.cells #[.int .u64 ((nowS o).1 : Int), .int .u64 ((nowS o).2.1 : Int), .slice sa sn sk] 34)).heap.size (W11.alloc (.cells #[.int .u64 ((nowS o).1 : Int), .int .u64 ((nowS o).2.1 : Int), .slice sa sn sk] 34)) W →
    Sv W q (.int .u64 (A.1 : Int)) (.int .u64 (A.2.1 : Int)) va ∧ Sv W bn (.int .u64 (B.1 : Int)) (.int .u64 (B.2.1 : Int)) vb ∧ Sv W W11.heap.size (.int .u64 ((nowS o).1 : Int)) (.int .u64 ((nowS o).2.1 : Int)) (.slice sa sn sk) ∧
    Hid (Calls Tryz.prog 18 #[.agg #[.int .u64 ((nowS o).1 : Int), .int .u64 ((nowS o).2.1 : Int), .slice sa sn sk], .agg #[.int .u64 (B.1 : Int), .int .u64 (B.2.1 : Int), vb]] W fun e W' => e = .returned (.bool (decide (nowS o = B))) ∧ Below W.heap.size W W') ∧
    Hid (Calls Tryz.prog 18 #[.agg #[.int .u64 ((nowS o).1 : Int), .int .u64 ((nowS o).2.1 : Int), .slice sa sn sk], .agg #[.int .u64 (A.1 : Int), .int .u64 (A.2.1 : Int), va]] W fun e W' => e = .returned (.bool (decide (nowS o = A))) ∧ Below W.heap.size W W') ∧
    Hid (HD w (((W.setCell ⟨q, 0, none⟩ (.int .u64 ((nowS o).1 : Int))).setCell ⟨q, 1, none⟩ (.int .u64 ((nowS o).2.1 : Int))).setCell ⟨q, 2, none⟩ (.slice sa sn sk)) p q m o sa sn sk)
theorem same_s {W : World} {O O' : Nat → Prop} {s B : Sn} {sa : Option Addr} {sn sk : Nat} {vb : Value} (h : RZ W O (.slice sa sn sk) s.2.2) (h' : RZ W O' vb B.2.2) :
    Calls Tryz.prog 18 #[.agg #[.int .u64 (s.1 : Int), .int .u64 (s.2.1 : Int), .slice sa sn sk], .agg #[.int .u64 (B.1 : Int), .int .u64 (B.2.1 : Int), vb]] W fun e W' => e = .returned (.bool (decide (s = B))) ∧ Below W.heap.size W W' := by
  obtain ⟨i, t, l⟩ := s
  obtain ⟨i', t', l'⟩ := B
  obtain ⟨a, k, rfl⟩ := h'.slice
  exact same_z h h'
theorem dk_below {O : Nat → Prop} {W W' : World} (h : Below W.heap.size W W') : Dk.FrO O W W' := Dk.FrO.of_below h
/-- Crash, then Load. -/
theorem crash_load {w W9 : World} {p q m bn : Nat} {S : Dk.St} {o : Option Sn} {g : Option (List UInt8 × Nat)} {O : Nat → Prop} {A B : Sn} {va vb kv : Value} {ks : List Int} (h : Dk.DX W9 p S (FS o g) O) (hg : gOk g) (ho : oOk o) (hS : Okk S m) (hO : ∀ k, O k → w.heap.size ≤ k ∧ k ≠ q ∧ k ≠ bn) (hb : Below w.heap.size w W9) (hq : w.heap.size ≤ q) (hE : ET w) (hT : ST w)
    (sA : Sv W9 q (.int .u64 (A.1 : Int)) (.int .u64 (A.2.1 : Int)) va) (sB : Sv W9 bn (.int .u64 (B.1 : Int)) (.int .u64 (B.2.1 : Int)) vb) (rA : RZ W9 O va A.2.2) (rB : RZ W9 O vb B.2.2) (hk : Dk.KeepAt W9 O kv ks) (hkl : ks.length ≤ 80) :
    Calls Tryz.prog 11 #[.pointer (some ⟨p, 0, none⟩), .agg #[kv]] W9 fun e W10 => e = .returned (.tuple #[]) ∧ Hid (Calls Tryz.prog 12 #[.pointer (some ⟨p, 0, none⟩)] W10 fun e W11 => ∃ sa sn sk, e = .returned (.tuple #[.agg #[.int .u64 ((nowS o).1 : Int), .int .u64 ((nowS o).2.1 : Int), .slice sa sn sk], .bool o.isSome, .nilIface]) ∧ Hid (LD w W11 p q m bn o A B va vb sa sn sk)) := by
  refine (Dk.dx_crash kv ks h hk (by omega) (fs_names o g)).mono ?_
  rintro e W10 ⟨rfl, hx, hf⟩
  obtain ⟨g', e1, hg'⟩ := fall_fs ks o g hg
  rw [e1] at hx
  have nq : ¬ O q := fun hh => (hO q hh).2.1 rfl
  have nb : ¬ O bn := fun hh => (hO bn hh).2.2 rfl
  have hb10 : Below w.heap.size w W10 := below_fro hb hf (fun k hk => (hO k hk).1) (Nat.le_refl _)
  have sA1 := sA.kept hf nq
  have sB1 := sB.kept hf nb
  have rA1 := rA.fr hf
  have rB1 := rB.fr hf
  refine ⟨rfl, (load_fs hx (hE.below hb10 hE.lt) (hT.below hb10 hT.lt) rfl ho).mono ?_⟩
  rintro e W11 ⟨sa, sn, sk, hs, hb11⟩
  have hs' : e = .returned (.tuple #[.agg #[.int .u64 ((nowS o).1 : Int), .int .u64 ((nowS o).2.1 : Int), .slice sa sn sk], .bool o.isSome, .nilIface]) ∧ RBn W11 W10.heap.size (.slice sa sn sk) (nowS o).2.2 := by
    cases o with
    | none =>
      obtain ⟨rfl, rfl, rfl, rfl⟩ := hs
      exact ⟨rfl, by show ([] : List UInt8).length ≤ _; decide, .inl ⟨rfl, rfl⟩⟩
    | some s => exact hs
  obtain ⟨rfl, hd⟩ := hs'
  refine ⟨sa, sn, sk, rfl, fun W hW => ?_⟩
  have hbA : Below W11.heap.size W11 (W11.alloc (.cells #[.int .u64 ((nowS o).1 : Int), .int .u64 ((nowS o).2.1 : Int), .slice sa sn sk] 34)) := below_alloc _ (Nat.le_refl _)
  have hb1 : Below W10.heap.size W10 W := bt (bt hb11 hbA) hW
  have hb2 : Below W11.heap.size W11 W := bt hbA hW
  have hd2 := hd.later hb2
  have hxW := hx.below hb1
  have rs : Dk.RBo W (fun k => O k ∨ k = q) (.slice sa sn sk) (nowS o).2.2 := by
    obtain ⟨h1, h2 | ⟨b, off, cap, hbl, h0, h3, h4, h5, h6⟩⟩ := hd2
    · exact ⟨h1, .inl h2⟩
    · refine ⟨h1, .inr ⟨b, off, cap, hbl, fun hh => ?_, h3, h4, h5, h6⟩⟩
      rcases hh with hh | hh
      · exact absurd (hx.lt b hh) (Nat.not_lt.2 h0)
      · rw [hh] at h0
        exact absurd sA1.lt (Nat.not_lt.2 h0)
  refine ⟨sA1.below hb1 sA1.lt, sB1.below hb1 sB1.lt, (Sv.new W11 _ _ _).below hW (Sv.new W11 _ _ _).lt, same_s (.inl rs) (rB1.fr (dk_below hb1)), same_s (.inl rs) (rA1.fr (dk_below hb1)), ?_⟩
  exact hd_end hxW hg' ho ⟨hS.1, hS.2.1, hS.2.2.1, fun hh => by cases hh⟩ rfl rfl (fun k hk => ⟨(hO k hk).1, (hO k hk).2.1⟩) (bt hb10 hb1) hq (sA1.below hb1 sA1.lt) rs
end Go.Proofs.YtpminalccnhkjaaGreatDoor
