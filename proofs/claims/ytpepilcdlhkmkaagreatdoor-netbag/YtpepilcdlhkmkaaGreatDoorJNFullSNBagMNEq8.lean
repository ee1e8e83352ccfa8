/- A net: Send where it is full. -/
import Derived.Test.YtpepilcdlhkmkaaGreatDoorJNKnownNLaid
import Derived.Test.YtpepilcdlhkmkaaGreatDoorJLawNumbersLaidBytesIn
import Derived.DeepKeys
namespace Go.Proofs.YtpepilcdlhkmkaaGreatDoor
open Go.RowKit Go.Lib Go.Maps

set_option maxHeartbeats 6400000 in
set_option maxRecDepth 100000 in
theorem ns_send_full {w0 w : World} {p : Nat} {A : List (Int × Nat)} {K : Nat → Prop} (to' : Int) (sq : Nat) (hto : -1 ≤ to' ∧ to' ≤ 1000) (hsq : sq < 18446744073709551616) (h : NS w0 w p A K) (hfull : A.length = 4096) :
    Calls Tryz.prog 8 #[.pointer (some ⟨p, 0, none⟩), .agg (mL to' sq).toArray] w fun e w' => e = .returned (.iface 35 (.int .i64 31)) ∧ NS w0 w' p A K ∧ KK K w w' := by
  have h0 := h
  obtain ⟨⟨vf, L, O, hx, hf, hO⟩, h2, h3⟩ := h
  obtain ⟨d, hd⟩ := nmsg_some to' sq hto hsq
  obtain ⟨W, hW⟩ : ∃ W, w.alloc (.cells (mL to' sq).toArray 43) = W := ⟨_, rfl⟩
  have hbW : Below w.heap.size w W := by rw [← hW]; exact (Below.refl _ _).alloc (Nat.le_refl _) _
  have hWz : W.heap.size = w.heap.size + 1 := by rw [← hW]; simp
  have hWn : W.heap[w.heap.size]? = some (.cells (mL to' sq).toArray 43 (0, 0)) := by rw [← hW]; exact (MapKept.heap_alloc w _).1
  have HR : Hid (W.rangeAt w.heap.size 0 (mL to' sq)) := by rw [← hW]; exact range_new w 43 (mL to' sq)
  have HP : Hid (Calls Tryz.prog 17 #[.agg (mL to' sq).toArray] W fun e w2 => ∃ a k, e = .returned (.tuple #[.slice a d.length k, .nilIface]) ∧ w2.cell? ⟨w.heap.size, 1, none⟩ = some (.int .i64 1) ∧ w2.cell? ⟨w.heap.size, 2, none⟩ = some (.int .i64 to') ∧
      Hid (Calls Tryz.prog 19 #[.pointer (some ⟨p, 0, none⟩), .agg #[.int .i64 1, .int .i64 to', .slice a d.length k]] w2 fun e w3 => e = .returned (.iface 35 (.int .i64 31)) ∧ Hid (Below w.heap.size w w3))) := by
    have hput := putMsg_any 1 1 to' 0 0 0 (.slice none 0 0) 0 0 false 0 (.slice none 0 0) false 0 sq ⟨#[]⟩ 0 0 (.slice none 0 0) (.slice none 0 0) 0 0 0 [] [] [] [] W (by decide) (by decide) (by decide) (by decide) (by decide) (by decide) hsq (by decide) (by decide) (by show (0 : Nat) ≤ maxLen; exact Nat.zero_le _) (msg_empty W)
    refine hput.mono ?_
    rw [List.map_nil, hd]
    rintro e w2 ⟨a, k, rfl, hrow, hb⟩
    have hB : Below w.heap.size w w2 := hbW.trans (hb.mono hbW.size)
    have hn2 : w2.heap[w.heap.size]? = some (.cells (mL to' sq).toArray 43 (0, 0)) := (hb.block _ (by omega)).trans hWn
    refine ⟨a, k, rfl, by rw [(cellB hn2 1).1]; rfl, by rw [(cellB hn2 2).1]; rfl, ?_⟩
    refine (nadd_full 1 to' a d.length k (hx.below hB) (by rw [hf.1]; exact hfull)).mono ?_
    rintro e w3 ⟨rfl, hb3⟩
    exact ⟨rfl, one_b hB hb3⟩
  clear hd hbW hWn hWz hx hf hO h2 h3 hfull
  have H0 := hide h0
  clear h0
  go_enter Tryz.func8, Tryz.ntmps8
  go_upto_region 1 with fail
  refine wp_region_list ?_
  refine wpList_load_mid rfl 43 (.tmp 3) rfl w.heap.size 0 rfl (mL to' sq) _ (unhide HR) Tryz.underlying43 rfl Tryz.sizeM ?_
  go_wp2_with (first
    | (go_at_call 17; refine (unhide HP).mono ?_; rintro e w2 ⟨a, k, rfl, c1, c2, PA⟩; clear HP)
    | (go_at_call 19; refine (unhide PA).mono ?_; rintro e w3 ⟨rfl, H3⟩; clear PA))
  go_ret
  exact ⟨rfl, (unhide H0).below (unhide H3)⟩
end Go.Proofs.YtpepilcdlhkmkaaGreatDoor
/- NetBag: its counts. -/
namespace Go.Proofs.YtpepilcdlhkmkaaGreatDoor
open Go.RowKit Go.Lib Go.Maps

/-- Eight counts in a block. -/
def AR (w : World) (b : Nat) (S : Nat → Nat) : Prop := w.heap[b]? = some (.cells #[.int .i64 (S 0 : Nat), .int .i64 (S 1 : Nat), .int .i64 (S 2 : Nat), .int .i64 (S 3 : Nat), .int .i64 (S 4 : Nat), .int .i64 (S 5 : Nat), .int .i64 (S 6 : Nat), .int .i64 (S 7 : Nat)] 53 (0, 0))
def up1 (S : Nat → Nat) (j : Nat) : Nat → Nat := fun s => if s = j then S s + 1 else S s
theorem AR.cell {w : World} {b j : Nat} {S : Nat → Nat} (h : AR w b S) (hj : j < 8) : w.cell? ⟨b, j, none⟩ = some (.int .i64 (S j : Nat)) ∧ w.frozen? ⟨b, j, none⟩ = false := by
  refine ⟨?_, (cellB h j).2⟩
  rw [(cellB h j).1]
  match j, hj with
  | 0, _ => rfl
  | 1, _ => rfl
  | 2, _ => rfl
  | 3, _ => rfl
  | 4, _ => rfl
  | 5, _ => rfl
  | 6, _ => rfl
  | 7, _ => rfl
theorem AR.up {w : World} {b j : Nat} {S : Nat → Nat} (h : AR w b S) (hj : j < 8) : AR (w.setCell ⟨b, j, none⟩ (.int .i64 ((S j : Int) + 1))) b (up1 S j) := by
  unfold AR
  rw [heap_setCell_at h j _]
  match j, hj with
  | 0, _ => rfl
  | 1, _ => rfl
  | 2, _ => rfl
  | 3, _ => rfl
  | 4, _ => rfl
  | 5, _ => rfl
  | 6, _ => rfl
  | 7, _ => rfl
theorem AR.same {w w' : World} {b : Nat} {S : Nat → Nat} (h : AR w b S) (hb : w'.heap[b]? = w.heap[b]?) : AR w' b S := hb.trans h
theorem AR.other {w : World} {b b' j : Nat} {S : Nat → Nat} (h : AR w b S) (hne : b ≠ b') (v : Value) : AR (w.setCell ⟨b', j, none⟩ v) b S := (heap_setCell_ne j v hne).trans h
/-- How often a number is in flight. -/
def cnt (A : List (Int × Nat)) (s : Nat) : Nat := A.countP fun a => a.2 == s
theorem cnt_snoc (A : List (Int × Nat)) (a : Int × Nat) (s : Nat) : cnt (A ++ [a]) s = if s = a.2 then cnt A s + 1 else cnt A s := by
  unfold cnt
  rw [List.countP_append]
  by_cases h : s = a.2
  · rw [if_pos h]; subst h; simp
  · rw [if_neg h]
    have : (a.2 == s) = false := by simpa using fun e => h e.symm
    simp [this]
theorem cnt_erase {A : List (Int × Nat)} {i : Nat} {a : Int × Nat} (h : A[i]? = some a) (s : Nat) : cnt A s = if s = a.2 then cnt (A.eraseIdx i) s + 1 else cnt (A.eraseIdx i) s := by
  obtain ⟨hl, hx⟩ := List.getElem?_eq_some_iff.1 h
  have e : A = A.take i ++ a :: A.drop (i + 1) := by rw [← hx, List.getElem_cons_drop, List.take_append_drop]
  rw [List.eraseIdx_eq_take_drop_succ]
  have e2 : cnt A s = cnt (A.take i ++ a :: A.drop (i + 1)) s := by rw [← e]
  rw [e2]
  unfold cnt
  rw [List.countP_append, List.countP_append, List.countP_cons]
  by_cases h : s = a.2
  · rw [if_pos h]; subst h; simp; omega
  · rw [if_neg h]
    have : (a.2 == s) = false := by simpa using fun e => h e.symm
    simp [this]
theorem cnt_pos {A : List (Int × Nat)} {i : Nat} {a : Int × Nat} (h : A[i]? = some a) : 0 < cnt A a.2 := by rw [cnt_erase h, if_pos rfl]; omega
/-- What holds behind each round: the counts, and what is in flight. -/
structure BG (A : List (Int × Nat)) (S G : Nat → Nat) (k : Nat) : Prop where
  bal : ∀ s, S s = G s + cnt A s
  kind : ∀ a ∈ A, a.2 < 8 ∧ a.1 = (a.2 : Int)
  many : A.length ≤ k
  most : ∀ s, S s ≤ k
theorem BG.start : BG [] (fun _ => 0) (fun _ => 0) 0 := ⟨fun _ => rfl, fun a h => (by cases h), Nat.le_refl _, fun _ => Nat.le_refl _⟩
theorem BG.add {A : List (Int × Nat)} {S G : Nat → Nat} {k : Nat} (h : BG A S G k) {j : Nat} (hj : j < 8) : BG (A ++ [((j : Int), j)]) (up1 S j) G (k + 1) := by
  refine ⟨fun s => ?_, fun a ha => ?_, by have := h.many; simp; omega, fun s => ?_⟩
  · rw [cnt_snoc]
    have := h.bal s
    unfold up1
    by_cases e : s = j
    · rw [if_pos e, if_pos e]; omega
    · rw [if_neg e, if_neg e]; omega
  · rcases List.mem_append.1 ha with ha | ha
    · exact h.kind a ha
    · simp at ha; subst ha; exact ⟨hj, rfl⟩
  · have := h.most s
    unfold up1; split <;> omega
theorem BG.more {A : List (Int × Nat)} {S G : Nat → Nat} {k : Nat} (h : BG A S G k) : BG A S G (k + 1) := ⟨h.bal, h.kind, by have := h.many; omega, fun s => by have := h.most s; omega⟩
theorem BG.at {A : List (Int × Nat)} {S G : Nat → Nat} {k : Nat} (h : BG A S G k) {i : Nat} (hi : i < A.length) : ∃ j : Nat, j < 8 ∧ A[i]? = some ((j : Int), j) := by
  obtain ⟨a, ha⟩ : ∃ a, A[i]? = some a := ⟨_, List.getElem?_eq_getElem hi⟩
  obtain ⟨h1, h2⟩ := h.kind a (List.mem_of_getElem? ha)
  refine ⟨a.2, h1, ?_⟩
  rw [ha, ← h2]
theorem BG.rem {A : List (Int × Nat)} {S G : Nat → Nat} {k i j : Nat} (h : BG A S G k) (ha : A[i]? = some ((j : Int), j)) : BG (A.eraseIdx i) S (up1 G j) k ∧ up1 G j j ≤ S j := by
  have hb : ∀ s, S s = up1 G j s + cnt (A.eraseIdx i) s := fun s => by
    have h1 := h.bal s
    have h2 := cnt_erase ha s
    unfold up1
    by_cases e : s = j
    · rw [if_pos e] at h2 ⊢; omega
    · rw [if_neg e] at h2 ⊢; omega
  refine ⟨⟨hb, fun a haa => h.kind a (List.mem_of_mem_eraseIdx haa), ?_, h.most⟩, by have := hb j; omega⟩
  have := h.many
  have h3 := List.length_eraseIdx_le A i
  omega
theorem BG.done {S G : Nat → Nat} {k : Nat} (h : BG [] S G k) (s : Nat) : G s = S s := by have := h.bal s; simp [cnt] at this; omega
end Go.Proofs.YtpepilcdlhkmkaaGreatDoor
/- Two rows of eight counts that are alike are the same. -/
namespace Go.Proofs.YtpepilcdlhkmkaaGreatDoor
open Go.RowKit Go.Lib Go.Maps

theorem lit1 (d n : Nat) (h : n ≤ 1000) : Tryz.prog.keyLits (d + 1) 3 [.int .i64 (n : Int)] = some [.int .i64 (n : Int)] := by
  have hw : (Lit.int .i64 (n : Int)).wf = true := by simp [Lit.wf, IntKind.min, IntKind.max, IntKind.signed, IntKind.bits]; omega
  simp only [Program.keyLits, Tryz.underlying3]
  rw [if_pos ⟨trivial, hw⟩]
theorem cells8 : Tryz.prog.cellsOf 53 = 8 ∧ Tryz.prog.cellsOf 3 = 1 := ⟨by kernel_rfl, by kernel_rfl⟩
theorem eq8 (s0 s1 s2 s3 s4 s5 s6 s7 : Nat) (w : World) (h0 : s0 ≤ 1000) (h1 : s1 ≤ 1000) (h2 : s2 ≤ 1000) (h3 : s3 ≤ 1000) (h4 : s4 ≤ 1000) (h5 : s5 ≤ 1000) (h6 : s6 ≤ 1000) (h7 : s7 ≤ 1000) : (Op.equalIn 10000 53 (.agg #[.int .i64 (s0 : Int), .int .i64 (s1 : Int), .int .i64 (s2 : Int), .int .i64 (s3 : Int), .int .i64 (s4 : Int), .int .i64 (s5 : Int), .int .i64 (s6 : Int), .int .i64 (s7 : Int)]) (.agg #[.int .i64 (s0 : Int), .int .i64 (s1 : Int), .int .i64 (s2 : Int), .int .i64 (s3 : Int), .int .i64 (s4 : Int), .int .i64 (s5 : Int), .int .i64 (s6 : Int), .int .i64 (s7 : Int)])).run Tryz.prog w = .ok true w := by
  have h := run_equalIn_deep (P := Tryz.prog) 9990 10 53 (by kernel_rfl)
  obtain ⟨c1, c2⟩ := cells8
  have hl : Tryz.prog.keyLits 2 53 [.int .i64 (s0 : Int), .int .i64 (s1 : Int), .int .i64 (s2 : Int), .int .i64 (s3 : Int), .int .i64 (s4 : Int), .int .i64 (s5 : Int), .int .i64 (s6 : Int), .int .i64 (s7 : Int)] = some [.int .i64 (s0 : Int), .int .i64 (s1 : Int), .int .i64 (s2 : Int), .int .i64 (s3 : Int), .int .i64 (s4 : Int), .int .i64 (s5 : Int), .int .i64 (s6 : Int), .int .i64 (s7 : Int)] := by
    have e : List.range 8 = [0, 1, 2, 3, 4, 5, 6, 7] := rfl
    unfold Program.keyLits
    simp only [Tryz.underlying53, c1, c2, e]
    simp [lit1 0 _ h0, lit1 0 _ h1, lit1 0 _ h2, lit1 0 _ h3, lit1 0 _ h4, lit1 0 _ h5, lit1 0 _ h6, lit1 0 _ h7]
  have hf : (Value.agg #[.int .i64 (s0 : Int), .int .i64 (s1 : Int), .int .i64 (s2 : Int), .int .i64 (s3 : Int), .int .i64 (s4 : Int), .int .i64 (s5 : Int), .int .i64 (s6 : Int), .int .i64 (s7 : Int)]).formed Tryz.prog 53 = true := by kernel_rfl
  obtain ⟨r, hr, hi⟩ := h w 2 2 _ _ _ _ hf hf hl hl
  rw [hi.2 rfl] at hr
  exact hr
end Go.Proofs.YtpepilcdlhkmkaaGreatDoor
