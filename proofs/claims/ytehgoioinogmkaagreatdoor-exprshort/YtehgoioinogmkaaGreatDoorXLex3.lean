/- The document's lexer: cased. -/
import Derived.Test.YtehgoioinogmkaaGreatDoorJVKnownKBytesHandXBaseKRefVLaid
import Derived.Laws.IdiomStrings
namespace Go.Proofs.YtehgoioinogmkaaGreatDoor
open Go.RowKit Go.Lib

/-- A row that was made of a string: its first bytes. -/
def BWX (w : World) (b : Nat) (l : List UInt8) : Prop :=
  ∃ C m, w.heap[b]? = some (.cells C 5 (m, m + 1)) ∧ l.length ≤ m ∧ C.size = m ∧ ∀ i, i < l.length → C[i]? = some (.int .u8 ((l.getD i 0).toNat : Int))
theorem BWX.lt {w : World} {b : Nat} {l : List UInt8} (h : BWX w b l) : b < w.heap.size := by obtain ⟨_, _, h, _⟩ := h; exact ltX h
theorem BWX.cell {w : World} {b i : Nat} {l : List UInt8} (h : BWX w b l) (hi : i < l.length) : w.cell? ⟨b, i, none⟩ = some (.int .u8 ((l.getD i 0).toNat : Int)) ∧ w.frozen? ⟨b, i, none⟩ = false := by
  obtain ⟨C, m, h1, h2, h3, h4⟩ := h
  refine ⟨?_, ?_⟩
  · rw [World.cell?]; simp [h1, h4 i hi]
  · simp [World.frozen?, h1]; omega
theorem BWX.set {w : World} {b i : Nat} {l : List UInt8} (h : BWX w b l) (hi : i < l.length) (c : UInt8) : BWX (w.setCell ⟨b, i, none⟩ (.int .u8 (c.toNat : Int))) b (l.set i c) := by
  obtain ⟨C, m, h1, h2, h3, h4⟩ := h
  refine ⟨C.setIfInBounds i (.int .u8 (c.toNat : Int)), m, ?_, by simpa using h2, by simpa using h3, fun j hj => ?_⟩
  · simp only [World.setCell]
    rw [Array.getElem?_modify, if_pos rfl, h1]
    rfl
  · rw [List.length_set] at hj
    by_cases e : i = j
    · subst e
      rw [Array.getElem?_setIfInBounds_self_of_lt (by omega)]
      simp [List.getD_eq_getElem?_getD, hi]
    · rw [Array.getElem?_setIfInBounds_ne e, h4 j hj]
      simp [List.getD_eq_getElem?_getD, List.getElem?_set_ne e]
theorem strBytes_any (l : List UInt8) (w : World) : ∃ cap W, (convert 9 57 (.string ⟨l.toArray⟩)).run Tryz.prog w = .ok (.slice (some ⟨w.heap.size, 0, none⟩) l.length cap) W ∧ Below w.heap.size w W ∧ BWX W w.heap.size l := by
  have h := run_bytes_of_string (P := Tryz.prog) w 9 57 5 ⟨l.toArray⟩ Tryz.underlying9 Tryz.underlying57 Tryz.underlying5
  have hs : (⟨l.toArray⟩ : ByteArray).size = l.length := by simp [ByteArray.size]
  rw [hs] at h
  obtain ⟨cap, hcap⟩ : ∃ cap, cap = grownCap w l.length 0 5 := ⟨_, rfl⟩
  rw [← hcap] at h
  refine ⟨cap, _, h, ((Below.refl _ _).drew).alloc (by simp) _, bytesRow ⟨l.toArray⟩ cap, _, heap_alloc_new _ _, ?_, rfl, fun i hi => ?_⟩
  · simp [bytesRow, ByteArray.size]
  · rw [bytesRow, Array.getElem?_append_left (by simp; omega)]
    simp [List.getD_eq_getElem?_getD, hi]
theorem BWX.back {w : World} {b cap : Nat} {l : List UInt8} (h : BWX w b l) (n : Nat) (hn : n = l.length) : (convert 57 9 (.slice (some ⟨b, 0, none⟩) n cap)).run Tryz.prog w = .ok (.string ⟨l.toArray⟩) w := by
  subst hn
  refine run_convert_bytes_back w 57 9 5 _ cap l Tryz.underlying57 Tryz.underlying5 Tryz.underlying9 (fun j hj => ?_)
  rw [Go.WideShapes.add_plain, Nat.zero_add, (h.cell hj).1]
  simp [List.getD_eq_getElem?_getD, hj]
def fX (g : Bool) (c : UInt8) : UInt8 := if g then upperB c else lowerB c
def mixX (g : Bool) (k : Nat) (l : List UInt8) : List UInt8 := (l.take k).map (fX g) ++ l.drop k
theorem mix_len (g : Bool) (k : Nat) (l : List UInt8) : (mixX g k l).length = l.length := by simp [mixX]; omega
theorem mix_at {g : Bool} {k : Nat} {l : List UInt8} (h : k < l.length) : (mixX g k l).getD k 0 = l[k] := by
  unfold mixX
  rw [List.getD_eq_getElem?_getD, List.getElem?_append_right (by simp; omega)]
  simp [Nat.min_eq_left (Nat.le_of_lt h), h]
theorem mix_set {g : Bool} {k : Nat} {l : List UInt8} (h : k < l.length) : (mixX g k l).set k (fX g l[k]) = mixX g (k + 1) l := by
  unfold mixX
  rw [List.set_append_right _ _ (by simp; omega), List.drop_eq_getElem_cons h, List.length_map, List.length_take, Nat.min_eq_left (Nat.le_of_lt h), Nat.sub_self, List.set_cons_zero, List.take_succ_eq_append_getElem h, List.map_append, List.append_assoc]
  rfl
theorem mix_same {g : Bool} {k : Nat} {l : List UInt8} (h : k < l.length) (hf : fX g l[k] = l[k]) : mixX g k l = mixX g (k + 1) l := by
  rw [← mix_set h, hf]
  apply List.ext_getElem?
  intro j
  by_cases e : k = j
  · subst e
    have := mix_at (g := g) h
    rw [List.getD_eq_getElem?_getD] at this
    rw [List.getElem?_set_self (by rw [mix_len]; exact h), ← this, List.getElem?_eq_getElem (by rw [mix_len]; exact h)]; rfl
  · rw [List.getElem?_set_ne e]
theorem mix_all (g : Bool) (l : List UInt8) : mixX g l.length l = if g then upL l else loL l := by
  unfold mixX
  rw [List.take_length, List.drop_length, List.append_nil]
  cases g <;> rfl
set_option maxRecDepth 10000 in
theorem cased_any (g : Bool) (l : List UInt8) (w : World) (hl : l.length ≤ 1000000) : Calls Tryz.prog 141 #[sv l, .bool g] w fun e w' => e = .returned (sv (if g then upL l else loL l)) ∧ Below w.heap.size w w' := by
  obtain ⟨cap, W, hc, hb, hw⟩ := strBytes_any l w
  have HB := hide hb
  have HW := hide hw
  have hl' : (l.length : Int) ≤ 1000000 := by omega
  clear hb hw
  obtain ⟨r, hr⟩ : ∃ r, r = (if g = true then upL l else loL l) := ⟨_, rfl⟩
  rw [← hr]
  have HRR := hide hr
  clear hr
  unfold sv
  go_enter Tryz.func141, Tryz.ntmps141
  go_wp2_with fail
  go_loopw [6] (fun i wr => ∃ k : Nat, k ≤ l.length ∧ i = .int .i64 k ∧ Hid (Below w.heap.size w wr ∧ BWX wr w.heap.size (mixX g k l))) (fun i _ => l.length - (intOf i).toNat)
  case atStart => exact ⟨0, by omega, rfl, unhide HB, by simpa [mixX] using unhide HW⟩
  case round =>
    obtain ⟨k, hk, rfl, HR⟩ := hrel
    by_cases hlt : k < l.length
    · have hki : (k : Int) < (l.length : Int) := by omega
      have hk0 : (0 : Int) ≤ (k : Int) := by omega
      obtain ⟨c, hcc⟩ : ∃ c, c = l[k] := ⟨_, rfl⟩
      have hr := unhide HR
      have hcell := hr.2.cell (i := k) (by rw [mix_len]; exact hlt)
      rw [mix_at hlt, ← hcc] at hcell
      obtain ⟨c0, f0⟩ := hcell
      have HCC := hide hcc
      clear hr hcc hc
      have HS : Hid (∀ d : UInt8, d = fX g c → BWX (wr.setCell ⟨w.heap.size, k, none⟩ (.int .u8 (d.toNat : Int))) w.heap.size (mixX g (k + 1) l)) := fun d hd => by
        have h := (unhide HR).2.set (i := k) (by rw [mix_len]; exact hlt) d
        rw [hd, unhide HCC, mix_set hlt, ← unhide HCC] at h
        rw [hd]; exact h
      have HT : Hid (fX g c = c → BWX wr w.heap.size (mixX g (k + 1) l)) := fun hf => by
        rw [unhide HCC] at hf
        rw [← mix_same hlt hf]; exact (unhide HR).2
      have HBr := hide (unhide HR).1
      cases g with
      | true =>
        by_cases hlow : 97 ≤ c.toNat ∧ c.toNat ≤ 122
        · have e1 : (97 : Int) ≤ (c.toNat : Int) := by omega
          have e2 : (c.toNat : Int) ≤ 122 := by omega
          have hL : isLowerB c = true := by simp [isLowerB, UInt8.le_iff_toNat_le]; exact hlow
          have hd : ((upperB c).toNat : Int) = (c.toNat : Int) - 32 := upperB_int c hL
          have HD := hide hd
          clear hlow hL hd
          go_wp2_with fail
          go_roundw
          case rel => exact ⟨k + 1, by omega, by go_num, (unhide HBr).setCell (p := ⟨w.heap.size, k, none⟩) (Nat.le_refl _) _, by have h := unhide HS (upperB c) rfl; rw [unhide HD] at h; exact h⟩
          case measure => simp [intOf]; omega
        · have hL : isLowerB c = false := by simp [isLowerB, UInt8.le_iff_toNat_le]; omega
          have hf : fX true c = c := by show upperB c = c; exact upperB_of_not c hL
          have HF := hide hf
          clear hL hf
          have e3 : (c.toNat : Int) < 97 ∨ 122 < (c.toNat : Int) := by omega
          clear hlow
          rcases e3 with e3 | e3 <;>
          · go_wp2_with fail
            go_roundw
            case rel => exact ⟨k + 1, by omega, by go_num, unhide HBr, unhide HT (unhide HF)⟩
            case measure => simp [intOf]; omega
      | false =>
        by_cases hlow : 65 ≤ c.toNat ∧ c.toNat ≤ 90
        · have e1 : (65 : Int) ≤ (c.toNat : Int) := by omega
          have e2 : (c.toNat : Int) ≤ 90 := by omega
          have hL : isUpperB c = true := by simp [isUpperB, UInt8.le_iff_toNat_le]; exact hlow
          have hd : ((lowerB c).toNat : Int) = (c.toNat : Int) + 32 := lowerB_int c hL
          have HD := hide hd
          clear hlow hL hd
          go_wp2_with fail
          go_roundw
          case rel => exact ⟨k + 1, by omega, by go_num, (unhide HBr).setCell (p := ⟨w.heap.size, k, none⟩) (Nat.le_refl _) _, by have h := unhide HS (lowerB c) rfl; rw [unhide HD] at h; exact h⟩
          case measure => simp [intOf]; omega
        · have hL : isUpperB c = false := by simp [isUpperB, UInt8.le_iff_toNat_le]; omega
          have hf : fX false c = c := by show lowerB c = c; exact lowerB_of_not c hL
          have HF := hide hf
          clear hL hf
          have e3 : (c.toNat : Int) < 65 ∨ 90 < (c.toNat : Int) := by omega
          clear hlow
          rcases e3 with e3 | e3 <;>
          · go_wp2_with fail
            go_roundw
            case rel => exact ⟨k + 1, by omega, by go_num, unhide HBr, unhide HT (unhide HF)⟩
            case measure => simp [intOf]; omega
    · have he : k = l.length := by omega
      have hb := (unhide HR).2
      rw [he, mix_all] at hb
      have hcv := hb.back (cap := cap) l.length (by cases g <;> simp [upL, loL])
      have HBr := hide (unhide HR).1
      rw [← unhide HRR] at hcv
      clear hb HR hc he
      go_wp2_with fail
      go_ret
      exact ⟨rfl, unhide HBr⟩
end Go.Proofs.YtehgoioinogmkaaGreatDoor
