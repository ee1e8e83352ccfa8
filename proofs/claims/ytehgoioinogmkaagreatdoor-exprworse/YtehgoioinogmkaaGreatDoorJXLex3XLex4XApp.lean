/- The document's lexer: cased. -/
import Derived.Test.YtehgoioinogmkaaGreatDoorJVKnownKBytesHandXBaseKRefVLaid
import Derived.Laws.IdiomStrings
import Derived.Maps.AppendAt
namespace Go.Proofs.YtehgoioinogmkaaGreatDoor
open Go.RowKit Go.Lib

/-- A row that was made of a string: its first bytes. -/
def BWX (w : World) (b : Nat) (l : List UInt8) : Prop :=
  ∃ C m, w.heap[b]? = some (.cells C 5 (m, m + 1)) ∧ l.length ≤ m ∧ C.size = m ∧ ∀ i, i < l.length → C[i]? = some (.int .u8 ((l.getD i 0).toNat : Int))
theorem BWX.lt {w : World} {b : Nat} {l : List UInt8} (h : BWX w b l) : b < w.heap.size := by obtain ⟨_, _, h, _⟩ := h; exact ltX h
theorem BWX.cell {w : World} {b i : Nat} {l : List UInt8} (h : BWX w b l) (hi : i < l.length) : w.cell? ⟨b, i, none⟩ = some (.int .u8 ((l.getD i 0).toNat : Int)) ∧ w.frozen? ⟨b, i, none⟩ = false := by
  obtain ⟨C, m, h1, h2, h3, h4⟩ := h
  refine ⟨?_, ?_⟩
  · rw [World.cell?]; simp [h1, h4 i hi]
  · simp [World.frozen?, h1]; omega
theorem BWX.set {w : World} {b i : Nat} {l : List UInt8} (h : BWX w b l) (hi : i < l.length) (c : UInt8) : BWX (w.setCell ⟨b, i, none⟩ (.int .u8 (c.toNat : Int))) b (l.set i c) := by
  obtain ⟨C, m, h1, h2, h3, h4⟩ := h
  refine ⟨C.setIfInBounds i (.int .u8 (c.toNat : Int)), m, ?_, by simpa using h2, by simpa using h3, fun j hj => ?_⟩
  · simp only [World.setCell]
    rw [Array.getElem?_modify, if_pos rfl, h1]
    rfl
  · rw [List.length_set] at hj
    by_cases e : i = j
    · subst e
      rw [Array.getElem?_setIfInBounds_self_of_lt (by omega)]
      simp [List.getD_eq_getElem?_getD, hi]
    · rw [Array.getElem?_setIfInBounds_ne e, h4 j hj]
      simp [List.getD_eq_getElem?_getD, List.getElem?_set_ne e]
theorem strBytes_any (l : List UInt8) (w : World) : ∃ cap W, (convert 9 57 (.string ⟨l.toArray⟩)).run Tryz.prog w = .ok (.slice (some ⟨w.heap.size, 0, none⟩) l.length cap) W ∧ Below w.heap.size w W ∧ BWX W w.heap.size l := by
  have h := run_bytes_of_string (P := Tryz.prog) w 9 57 5 ⟨l.toArray⟩ Tryz.underlying9 Tryz.underlying57 Tryz.underlying5
  have hs : (⟨l.toArray⟩ : ByteArray).size = l.length := by simp [ByteArray.size]
  rw [hs] at h
  obtain ⟨cap, hcap⟩ : ∃ cap, cap = grownCap w l.length 0 5 := ⟨_, rfl⟩
  rw [← hcap] at h
  refine ⟨cap, _, h, ((Below.refl _ _).drew).alloc (by simp) _, bytesRow ⟨l.toArray⟩ cap, _, heap_alloc_new _ _, ?_, rfl, fun i hi => ?_⟩
  · simp [bytesRow, ByteArray.size]
  · rw [bytesRow, Array.getElem?_append_left (by simp; omega)]
    simp [List.getD_eq_getElem?_getD, hi]
theorem BWX.back {w : World} {b cap : Nat} {l : List UInt8} (h : BWX w b l) (n : Nat) (hn : n = l.length) : (convert 57 9 (.slice (some ⟨b, 0, none⟩) n cap)).run Tryz.prog w = .ok (.string ⟨l.toArray⟩) w := by
  subst hn
  refine run_convert_bytes_back w 57 9 5 _ cap l Tryz.underlying57 Tryz.underlying5 Tryz.underlying9 (fun j hj => ?_)
  rw [Go.WideShapes.add_plain, Nat.zero_add, (h.cell hj).1]
  simp [List.getD_eq_getElem?_getD, hj]
def fX (g : Bool) (c : UInt8) : UInt8 := if g then upperB c else lowerB c
def mixX (g : Bool) (k : Nat) (l : List UInt8) : List UInt8 := (l.take k).map (fX g) ++ l.drop k
theorem mix_len (g : Bool) (k : Nat) (l : List UInt8) : (mixX g k l).length = l.length := by simp [mixX]; omega
theorem mix_at {g : Bool} {k : Nat} {l : List UInt8} (h : k < l.length) : (mixX g k l).getD k 0 = l[k] := by
  unfold mixX
  rw [List.getD_eq_getElem?_getD, List.getElem?_append_right (by simp; omega)]
  simp [Nat.min_eq_left (Nat.le_of_lt h), h]
theorem mix_set {g : Bool} {k : Nat} {l : List UInt8} (h : k < l.length) : (mixX g k l).set k (fX g l[k]) = mixX g (k + 1) l := by
  unfold mixX
  rw [List.set_append_right _ _ (by simp; omega), List.drop_eq_getElem_cons h, List.length_map, List.length_take, Nat.min_eq_left (Nat.le_of_lt h), Nat.sub_self, List.set_cons_zero, List.take_succ_eq_append_getElem h, List.map_append, List.append_assoc]
  rfl
theorem mix_same {g : Bool} {k : Nat} {l : List UInt8} (h : k < l.length) (hf : fX g l[k] = l[k]) : mixX g k l = mixX g (k + 1) l := by
  rw [← mix_set h, hf]
  apply List.ext_getElem?
  intro j
  by_cases e : k = j
  · subst e
    have := mix_at (g := g) h
    rw [List.getD_eq_getElem?_getD] at this
    rw [List.getElem?_set_self (by rw [mix_len]; exact h), ← this, List.getElem?_eq_getElem (by rw [mix_len]; exact h)]; rfl
  · rw [List.getElem?_set_ne e]
theorem mix_all (g : Bool) (l : List UInt8) : mixX g l.length l = if g then upL l else loL l := by
  unfold mixX
  rw [List.take_length, List.drop_length, List.append_nil]
  cases g <;> rfl
set_option maxRecDepth 10000 in
theorem cased_any (g : Bool) (l : List UInt8) (w : World) (hl : l.length ≤ 1000000) : Calls Tryz.prog 141 #[sv l, .bool g] w fun e w' => e = .returned (sv (if g then upL l else loL l)) ∧ Below w.heap.size w w' := by
  obtain ⟨cap, W, hc, hb, hw⟩ := strBytes_any l w
  have HB := hide hb
  have HW := hide hw
  have hl' : (l.length : Int) ≤ 1000000 := by omega
  clear hb hw
  obtain ⟨r, hr⟩ : ∃ r, r = (if g = true then upL l else loL l) := ⟨_, rfl⟩
  rw [← hr]
  have HRR := hide hr
  clear hr
  unfold sv
  go_enter Tryz.func141, Tryz.ntmps141
  go_wp2_with fail
  go_loopw [6] (fun i wr => ∃ k : Nat, k ≤ l.length ∧ i = .int .i64 k ∧ Hid (Below w.heap.size w wr ∧ BWX wr w.heap.size (mixX g k l))) (fun i _ => l.length - (intOf i).toNat)
  case atStart => exact ⟨0, by omega, rfl, unhide HB, by simpa [mixX] using unhide HW⟩
  case round =>
    obtain ⟨k, hk, rfl, HR⟩ := hrel
    by_cases hlt : k < l.length
    · have hki : (k : Int) < (l.length : Int) := by omega
      have hk0 : (0 : Int) ≤ (k : Int) := by omega
      obtain ⟨c, hcc⟩ : ∃ c, c = l[k] := ⟨_, rfl⟩
      have hr := unhide HR
      have hcell := hr.2.cell (i := k) (by rw [mix_len]; exact hlt)
      rw [mix_at hlt, ← hcc] at hcell
      obtain ⟨c0, f0⟩ := hcell
      have HCC := hide hcc
      clear hr hcc hc
      have HS : Hid (∀ d : UInt8, d = fX g c → BWX (wr.setCell ⟨w.heap.size, k, none⟩ (.int .u8 (d.toNat : Int))) w.heap.size (mixX g (k + 1) l)) := fun d hd => by
        have h := (unhide HR).2.set (i := k) (by rw [mix_len]; exact hlt) d
        rw [hd, unhide HCC, mix_set hlt, ← unhide HCC] at h
        rw [hd]; exact h
      have HT : Hid (fX g c = c → BWX wr w.heap.size (mixX g (k + 1) l)) := fun hf => by
        rw [unhide HCC] at hf
        rw [← mix_same hlt hf]; exact (unhide HR).2
      have HBr := hide (unhide HR).1
      cases g with
      | true =>
        by_cases hlow : 97 ≤ c.toNat ∧ c.toNat ≤ 122
        · have e1 : (97 : Int) ≤ (c.toNat : Int) := by omega
          have e2 : (c.toNat : Int) ≤ 122 := by omega
          have hL : isLowerB c = true := by simp [isLowerB, UInt8.le_iff_toNat_le]; exact hlow
          have hd : ((upperB c).toNat : Int) = (c.toNat : Int) - 32 := upperB_int c hL
          have HD := hide hd
          clear hlow hL hd
          go_wp2_with fail
          go_roundw
          case rel => exact ⟨k + 1, by omega, by go_num, (unhide HBr).setCell (p := ⟨w.heap.size, k, none⟩) (Nat.le_refl _) _, by have h := unhide HS (upperB c) rfl; rw [unhide HD] at h; exact h⟩
          case measure => simp [intOf]; omega
        · have hL : isLowerB c = false := by simp [isLowerB, UInt8.le_iff_toNat_le]; omega
          have hf : fX true c = c := by show upperB c = c; exact upperB_of_not c hL
          have HF := hide hf
          clear hL hf
          have e3 : (c.toNat : Int) < 97 ∨ 122 < (c.toNat : Int) := by omega
          clear hlow
          rcases e3 with e3 | e3 <;>
          · go_wp2_with fail
            go_roundw
            case rel => exact ⟨k + 1, by omega, by go_num, unhide HBr, unhide HT (unhide HF)⟩
            case measure => simp [intOf]; omega
      | false =>
        by_cases hlow : 65 ≤ c.toNat ∧ c.toNat ≤ 90
        · have e1 : (65 : Int) ≤ (c.toNat : Int) := by omega
          have e2 : (c.toNat : Int) ≤ 90 := by omega
          have hL : isUpperB c = true := by simp [isUpperB, UInt8.le_iff_toNat_le]; exact hlow
          have hd : ((lowerB c).toNat : Int) = (c.toNat : Int) + 32 := lowerB_int c hL
          have HD := hide hd
          clear hlow hL hd
          go_wp2_with fail
          go_roundw
          case rel => exact ⟨k + 1, by omega, by go_num, (unhide HBr).setCell (p := ⟨w.heap.size, k, none⟩) (Nat.le_refl _) _, by have h := unhide HS (lowerB c) rfl; rw [unhide HD] at h; exact h⟩
          case measure => simp [intOf]; omega
        · have hL : isUpperB c = false := by simp [isUpperB, UInt8.le_iff_toNat_le]; omega
          have hf : fX false c = c := by show lowerB c = c; exact lowerB_of_not c hL
          have HF := hide hf
          clear hL hf
          have e3 : (c.toNat : Int) < 65 ∨ 90 < (c.toNat : Int) := by omega
          clear hlow
          rcases e3 with e3 | e3 <;>
          · go_wp2_with fail
            go_roundw
            case rel => exact ⟨k + 1, by omega, by go_num, unhide HBr, unhide HT (unhide HF)⟩
            case measure => simp [intOf]; omega
    · have he : k = l.length := by omega
      have hb := (unhide HR).2
      rw [he, mix_all] at hb
      have hcv := hb.back (cap := cap) l.length (by cases g <;> simp [upL, loL])
      have HBr := hide (unhide HR).1
      rw [← unhide HRR] at hcv
      clear hb HR hc he
      go_wp2_with fail
      go_ret
      exact ⟨rfl, unhide HBr⟩
end Go.Proofs.YtehgoioinogmkaaGreatDoor
/- The document's lexer: signs. -/
namespace Go.Proofs.YtehgoioinogmkaaGreatDoor
open Go.RowKit Go.Lib

theorem sub_run (l : List UInt8) (i j : Nat) (x y : Int) (w : World) (hx : x = (i : Int)) (hy : y = (j : Int)) (hij : i ≤ j) (hj : j ≤ l.length) :
    (Instr.slice 9 (.string ⟨l.toArray⟩) (some (.int .i64 x)) (some (.int .i64 y)) none).run Tryz.prog w = .ok (.string ⟨((l.drop i).take (j - i)).toArray⟩) w := by
  subst hx hy
  have h := run_slice_string (P := Tryz.prog) w 9 ⟨l.toArray⟩ .i64 .i64 (i : Int) (j : Int) Tryz.underlying9 (by omega) (by omega) (by simp [ByteArray.size]; omega)
  have e : (⟨l.toArray⟩ : ByteArray).extract (i : Int).toNat (j : Int).toNat = ⟨((l.drop i).take (j - i)).toArray⟩ := by
    apply ByteArray.ext
    apply Array.ext'
    simp [ByteArray.data_extract, List.take_drop, Nat.add_sub_cancel' hij]
  rw [h, e]
theorem idx_run (l : List UInt8) (i : Nat) (x : Int) (c : UInt8) (w : World) (hx : x = (i : Int)) (hc : l[i]? = some c) :
    (Instr.index 9 (.string ⟨l.toArray⟩) (.int .i64 x)).run Tryz.prog w = .ok (.int .u8 (c.toNat : Int)) w := by
  subst hx
  have h := run_index_string (P := Tryz.prog) w 9 ⟨l.toArray⟩ .i64 (i : Int) Tryz.underlying9
  have hi : i < l.length := (List.getElem?_eq_some_iff.1 hc).1
  have e : ∀ (h : (i : Int).toNat < (⟨l.toArray⟩ : ByteArray).size), (⟨l.toArray⟩ : ByteArray)[(i : Int).toNat] = c := fun _ => (List.getElem?_eq_some_iff.1 hc).2
  rw [h, dif_pos ⟨by omega, by simp [ByteArray.size]; omega⟩, e]
def sgN (l : List UInt8) : Nat := match l with | [] => 0 | c :: r => if kd c = 5 then 1 else if kd c = 6 then sgL (c :: r) else 0
def pairX (c d : UInt8) : Prop := (c = 60 ∧ d = 62) ∨ (c = 60 ∧ d = 61) ∨ (c = 62 ∧ d = 61) ∨ (c = 124 ∧ d = 124)
def onesX : List Nat := [40, 41, 44, 59, 46, 42, 43, 45, 47, 37, 61, 60, 62]
theorem sg_two {c d : UInt8} (h : pairX c d) (r : List UInt8) : sgN (c :: d :: r) = 2 := by
  rcases h with ⟨rfl, rfl⟩ | ⟨rfl, rfl⟩ | ⟨rfl, rfl⟩ | ⟨rfl, rfl⟩ <;> rfl
theorem ones_kd : ∀ c : UInt8, c.toNat ∈ onesX → c ≠ 124 ∧ (kd c = 5 ∨ kd c = 6) := byte_all (by decide +kernel)
theorem nones_kd : ∀ c : UInt8, c.toNat ∉ onesX → kd c ≠ 5 ∧ (kd c = 6 → c = 124) := byte_all (by decide +kernel)
theorem sg_one {c : UInt8} (h : c.toNat ∈ onesX) (r : List UInt8) (hp : ∀ d, r.head? = some d → ¬ pairX c d) : sgN (c :: r) = 1 := by
  obtain ⟨h1, h2⟩ := ones_kd c h
  unfold sgN
  dsimp only
  by_cases h5 : kd c = 5
  · rw [if_pos h5]
  · rw [if_neg h5, if_pos (h2.resolve_left h5), sgL, if_neg h1, if_neg, if_neg]
    · rintro ⟨e | e, h'⟩
      · exact hp _ h' (.inr (.inl ⟨e, rfl⟩))
      · exact hp _ h' (.inr (.inr (.inl ⟨e, rfl⟩)))
    · rintro ⟨e, h'⟩
      exact hp _ h' (.inl ⟨e, rfl⟩)
theorem sg_none {c : UInt8} (h : c.toNat ∉ onesX) (r : List UInt8) (hp : ∀ d, r.head? = some d → ¬ pairX c d) : sgN (c :: r) = 0 := by
  obtain ⟨h1, h2⟩ := nones_kd c h
  unfold sgN
  dsimp only
  rw [if_neg h1]
  by_cases h6 : kd c = 6
  · rw [if_pos h6, sgL, if_pos (h2 h6), if_neg]
    intro h'
    exact hp _ h' (.inr (.inr (.inr ⟨h2 h6, rfl⟩)))
  · rw [if_neg h6]
theorem ret_sv1 {c : UInt8} {b : List UInt8} (h : b = [c]) : Ending.returned (.string ⟨#[c]⟩) = .returned (.string ⟨b.toArray⟩) := by rw [h]
theorem ret_sv2 {c d : UInt8} {b : List UInt8} (h : b = [c, d]) : Ending.returned (.string ⟨#[c, d]⟩) = .returned (.string ⟨b.toArray⟩) := by rw [h]
theorem ret_sv0 {b : List UInt8} (h : b = []) : Ending.returned (.string ⟨#[]⟩) = .returned (.string ⟨b.toArray⟩) := by rw [h]
set_option maxHeartbeats 1600000 in
set_option maxRecDepth 10000 in
theorem sign_any (l : List UInt8) (at' : Nat) (w : World) (hl : l.length ≤ 1000000) (ha : at' < l.length) : Calls Tryz.prog 149 #[sv l, .int .i64 (at' : Int)] w fun e w' => e = .returned (sv ((l.drop at').take (sgN (l.drop at')))) ∧ w' = w := by
  have hl' : (l.length : Int) ≤ 1000000 := by omega
  have ha0 : (0 : Int) ≤ (at' : Int) := by omega
  obtain ⟨c, hc⟩ : ∃ c, l[at']? = some c := ⟨l[at'], List.getElem?_eq_getElem ha⟩
  have hd : l.drop at' = c :: l.drop (at' + 1) := by
    rw [List.drop_eq_getElem_cons ha]
    rw [List.getElem?_eq_getElem ha] at hc
    injection hc with hc; rw [hc]
  have hi := idx_run l at' _ c w rfl hc
  have hs1 := sub_run l at' (at' + 1) _ _ w rfl (show (at' : Int) + 1 = ((at' + 1 : Nat) : Int) by omega) (by omega) (by omega)
  have e1 : (l.drop at').take (at' + 1 - at') = [c] := by rw [hd, show at' + 1 - at' = 1 by omega]; rfl
  rw [e1] at hs1
  obtain ⟨r, hr⟩ : ∃ r, r = (l.drop at').take (sgN (l.drop at')) := ⟨_, rfl⟩
  rw [← hr]
  rw [hd] at hr
  unfold sv
  clear hc e1 hd
  by_cases h2 : at' + 1 < l.length
  · have h2' : (at' : Int) + 1 < (l.length : Int) := by omega
    obtain ⟨d, hdd⟩ : ∃ d, l[at' + 1]? = some d := ⟨l[at' + 1], List.getElem?_eq_getElem h2⟩
    have hd2 : l.drop (at' + 1) = d :: l.drop (at' + 2) := by
      rw [List.drop_eq_getElem_cons h2]
      rw [List.getElem?_eq_getElem h2] at hdd
      injection hdd with hdd; rw [hdd]
    have e2 : (l.drop at').take (at' + 2 - at') = [c, d] := by
      rw [List.drop_eq_getElem_cons ha, show at' + 2 - at' = 2 by omega, hd2]
      have := (List.getElem?_eq_some_iff.1 (show l[at']? = some c by
        have h := hi
        rw [run_index_string (P := Tryz.prog) w 9 ⟨l.toArray⟩ .i64 (at' : Int) Tryz.underlying9, dif_pos ⟨by omega, by simp [ByteArray.size]; omega⟩] at h
        injection h with h _
        injection h with _ h
        rw [List.getElem?_eq_getElem ha]
        congr 1
        exact UInt8.toNat_inj.1 (Int.ofNat.inj h))).2
      rw [this]; rfl
    have hs := sub_run l at' (at' + 2) _ _ w rfl (show (at' : Int) + 2 = ((at' + 2 : Nat) : Int) by omega) (by omega) (by omega)
    rw [e2] at hs
    rw [hd2] at hr
    clear hd2 hdd e2
    by_cases hp : pairX c d
    · rw [sg_two hp] at hr
      have HR : Hid (r = [c, d]) := hr
      clear hr
      rcases hp with ⟨rfl, rfl⟩ | ⟨rfl, rfl⟩ | ⟨rfl, rfl⟩ | ⟨rfl, rfl⟩ <;>
      · go_enter Tryz.func149, Tryz.ntmps149
        go_wp2_with fail
        go_ret
        exact ⟨ret_sv2 (unhide HR), rfl⟩
    · have q1 : ([c, d] == [60, 62]) = false := by simp; exact fun h1 h2 => hp (.inl ⟨h1, h2⟩)
      have q2 : ([c, d] == [60, 61]) = false := by simp; exact fun h1 h2 => hp (.inr (.inl ⟨h1, h2⟩))
      have q3 : ([c, d] == [62, 61]) = false := by simp; exact fun h1 h2 => hp (.inr (.inr (.inl ⟨h1, h2⟩)))
      have q4 : ([c, d] == [124, 124]) = false := by simp; exact fun h1 h2 => hp (.inr (.inr (.inr ⟨h1, h2⟩)))
      have HR := hide hr
      have HP : Hid (∀ x, (d :: l.drop (at' + 2)).head? = some x → ¬ pairX c x) := fun x hx => by cases hx; exact hp
      clear hr hp
      go_enter Tryz.func149, Tryz.ntmps149
      go_wp2_with fail
      all_goals
        go_ret
        first
          | (refine ⟨ret_sv1 ?_, rfl⟩
             have hm : c.toNat ∈ onesX := by (simp only [beq_iff_eq] at *; simp only [onesX, List.mem_cons]; omega)
             rw [unhide HR, sg_one hm _ (unhide HP)]; rfl)
          | (refine ⟨ret_sv0 ?_, rfl⟩
             have hm : c.toNat ∉ onesX := by (simp only [beq_eq_false_iff_ne] at *; simp only [onesX, List.mem_cons]; simp; omega)
             rw [unhide HR, sg_none hm _ (unhide HP)]; rfl)
  · have h2' : ¬ (at' : Int) + 1 < (l.length : Int) := by omega
    have hn : l.drop (at' + 1) = [] := List.drop_eq_nil_of_le (by omega)
    rw [hn] at hr
    have HR := hide hr
    have HP : Hid (∀ x, ([] : List UInt8).head? = some x → ¬ pairX c x) := fun x hx => by cases hx
    clear hr hn
    go_enter Tryz.func149, Tryz.ntmps149
    go_wp2_with fail
    all_goals
      go_ret
      first
        | (refine ⟨ret_sv1 ?_, rfl⟩
           have hm : c.toNat ∈ onesX := by (simp only [beq_iff_eq] at *; simp only [onesX, List.mem_cons]; omega)
           rw [unhide HR, sg_one hm _ (unhide HP)]; rfl)
        | (refine ⟨ret_sv0 ?_, rfl⟩
           have hm : c.toNat ∉ onesX := by (simp only [beq_eq_false_iff_ne] at *; simp only [onesX, List.mem_cons]; simp; omega)
           rw [unhide HR, sg_none hm _ (unhide HP)]; rfl)
end Go.Proofs.YtehgoioinogmkaaGreatDoor
/- Appending one element to a row of the call's own. -/
namespace Go.Proofs.YtehgoioinogmkaaGreatDoor
open Go.RowKit Go.Lib

theorem ownBX {w : World} {B n sz : Nat} {T : TypeId} {v : Value} {xs : List Value} (h : w.ownsRow B T sz v n xs) : ∀ k, v.ownBlock = some k → B ≤ k := by
  intro k hk
  rcases h.2 with ⟨rfl, _⟩ | ⟨g, c, cur, rfl, hB, _⟩
  · simp [Value.ownBlock] at hk
  · simp [Value.ownBlock] at hk; omega
theorem ownSX {w : World} {B n sz : Nat} {T : TypeId} {v : Value} {xs : List Value} (h : w.ownsRow B T sz v n xs) : ∃ a k, v = .slice a n k := by
  obtain ⟨_, ⟨rfl, rfl⟩ | ⟨g, cap, cur, rfl, _⟩⟩ := h
  · exact ⟨_, _, rfl⟩
  · exact ⟨_, _, rfl⟩
theorem append1 {P : Program} {w : World} {ops : Array Oper} {rest : List Oper} {o : Oper} {a : Act} {Q : Exit → Act → World → Prop} (hgd : o.guard = none) (s x : Operand) (t : TypeId)
    (ho : o.op = .call { callee := .builtin .append, args := #[s, x], argTypes := #[t, t] })
    (base : Nat) (e : TypeId) (z : Value) (size bytes : Nat) (ht : P.underlying t = some (.slice e)) (hinfo : (P.info? e).map (fun i => (i.zero, i.size, i.bytes)) = some (some z, size, bytes))
    (hzs : z.cells.size = size) (hsz : 0 < size) (hbytes : bytes ≤ 1000)
    (v : Value) (n : Nat) (xs : List Value) (hs : a.eval s = v) (hown : w.ownsRow base e size v n xs)
    (b : Nat) (ys : List Value) (hx : a.eval x = .slice (some ⟨b, 0, none⟩) 1 1) (hb : w.heap[b]? = some (.cells ys.toArray e (0, 0))) (hl : ys.length = size) (h1 : ∀ u ∈ ys, u.oneCell' = true)
    (hn : n ≤ 100000000) (hbase : base ≤ w.heap.size)
    (h : ∀ ad k w', w'.ownsRow base e size (.slice ad (n + 1) k) (n + 1) (xs ++ ys) → Below base w w' → wpList P ops Q rest (a.put o.dst (.slice ad (n + 1) k)) w') : wpList P ops Q (o :: rest) a w := by
  obtain ⟨i0, hi, hz0, hz1, hz2⟩ := info_parts hinfo
  refine wpList_append_own_at w hgd s x t ho base e i0 z size bytes ht hi hz0 hz1 hz2 hzs hsz v n xs hs hown ⟨b, 0, none⟩ 1 1 ys hx (by omega) (fun j u hj => ?_) h1 (by unfold maxLen; omega) ?_ hbase ?_
  · rw [Go.WideShapes.add_plain, Nat.zero_add, cellX hb]
    simpa using hj
  · have : (n + 1) * bytes ≤ (100000000 + 1) * 1000 := Nat.mul_le_mul (by omega) hbytes
    omega
  · intro v' w' ho' hg _ _
    obtain ⟨ad, k, rfl⟩ := ownSX ho'
    exact h ad k w' ho' ((Below.refl _ _).grown hg hbase (ownBX hown))
/-- A row of one's own stands while only what lies below it turns, or what is new comes. -/
theorem own_keepX {w w' : World} {B n sz : Nat} {T : TypeId} {v : Value} {xs : List Value} (h : w.ownsRow B T sz v n xs) (hb : Below w.heap.size w w') : w'.ownsRow B T sz v n xs := by
  obtain ⟨h1, h2⟩ := h
  refine ⟨h1, ?_⟩
  rcases h2 with h2 | ⟨g, cap, cur, hv, hg, hh, r⟩
  · exact .inl h2
  · exact .inr ⟨g, cap, cur, hv, hg, blkX hh hb, r⟩
theorem Tryz.infoU8 : (Tryz.prog.info? 5).map (fun i => (i.zero, i.size, i.bytes)) = some (some (.int .u8 0), 1, 1) := by kernel_rfl
theorem Tryz.infoTk : (Tryz.prog.info? 208).map (fun i => (i.zero, i.size, i.bytes)) = some (some (.agg #[.int .i64 0, .string ⟨#[]⟩, .int .i64 0]), 3, 32) := by kernel_rfl
theorem Tryz.infoEx : (Tryz.prog.info? 29).map (fun i => (i.zero, i.size, i.bytes)) = some (some (.agg #[.int .i64 0, .int .i64 0, .int .i64 0, .int .i64 0, .string ⟨#[]⟩, .string ⟨#[]⟩, .string ⟨#[]⟩, .slice none 0 0, .int .i64 0, .int .i64 0]), 10, 120) := by kernel_rfl
end Go.Proofs.YtehgoioinogmkaaGreatDoor
