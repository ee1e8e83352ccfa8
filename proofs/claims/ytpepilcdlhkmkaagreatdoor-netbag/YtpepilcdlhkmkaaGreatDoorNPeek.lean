/- A net: Peek at a message that is in flight. -/
import Derived.Test.YtpepilcdlhkmkaaGreatDoorJNMsgNBigNMk
import Derived.Test.YtpepilcdlhkmkaaGreatDoorNDrop
namespace Go.Proofs.YtpepilcdlhkmkaaGreatDoor
open Go.RowKit Go.Lib Go.Maps

/-- The cells of a message that is read: as many as a message has, its kind, its end, its number. -/
structure MS (M : List Value) (to' : Int) (sq : Nat) : Prop where
  len : M.length = 23
  one : ∀ v ∈ M, v.oneCell' = true
  kind : M[0]? = some (.int .i64 1)
  end' : M[2]? = some (.int .i64 to')
  seq : M[14]? = some (.int .u64 (sq : Int))
theorem MS.size {M : List Value} {to' : Int} {sq : Nat} (h : MS M to' sq) : (Tryz.prog.info? 43).map (·.size) = some M.length := by rw [h.len]; exact Tryz.sizeM
theorem MS.asize {M : List Value} {to' : Int} {sq : Nat} (h : MS M to' sq) : M.toArray.size = 23 := by simp [h.len]
theorem MS.sizeA {M : List Value} {to' : Int} {sq : Nat} (h : MS M to' sq) : (Tryz.prog.info? 43).map (·.size) = some M.toArray.size := by rw [h.asize]; exact Tryz.sizeM
theorem MS.there {M : List Value} {to' : Int} {sq : Nat} (h : MS M to' sq) {w : World} {b : Nat} (ht : w.there b 0 23) : w.there b 0 M.toArray.size ∧ w.there b 0 M.length := by rw [h.asize, h.len]; exact ⟨ht, ht⟩
/-- A flight of the statements': its bytes are those of its message. -/
structure GF (e : Fl) (sq : Nat) : Prop where
  fr : e.fr = 1
  lt : sq < 18446744073709551616
  data : eMsg (1, 1, e.to', 0, 0, 0, [], 0, 0, false, 0, [], false, 0, sq, ⟨#[]⟩, (0, 0, [], [], 0, 0), 0) = some e.d
theorem nread_any {w : World} {to' : Int} {sq : Nat} {v : Value} {d : List UInt8} (hE : ET w) (hv : RBp w w.heap.size v d) (hsq : sq < 18446744073709551616) (hd : eMsg (1, 1, to', 0, 0, 0, [], 0, 0, false, 0, [], false, 0, sq, ⟨#[]⟩, (0, 0, [], [], 0, 0), 0) = some d) :
    Calls Tryz.prog 24 #[v] w fun e w' => ∃ M, e = .returned (.tuple #[.agg M.toArray, .nilIface]) ∧ MS M to' sq ∧ Below w.heap.size w w' := by
  refine (msg_good 1 1 to' 0 0 0 [] 0 0 false 0 [] false 0 sq ⟨#[]⟩ 0 0 [] [] 0 0 0 v d w hE hv (nmsg_back to' sq d hsq hd)).mono ?_
  rintro e w' ⟨a6, m6, k6, aD, mD, kD, a2, m2, k2, a3, m3, k3, rfl, _, hb⟩
  refine ⟨[.int .i64 1, .int .i64 1, .int .i64 to', .int .u64 0, .int .u64 0, .int .u64 0, .slice a6 m6 k6, .int .u64 0, .int .u64 0, .bool false, .int .i64 0, .slice aD mD kD, .bool false, .int .u64 0, .int .u64 (sq : Int), .string ⟨#[]⟩, .int .u64 0, .int .i64 0, .slice a2 m2 k2, .slice a3 m3 k3, .int .i64 0, .int .u64 0, .int .i64 0], rfl, ⟨rfl, ?_, rfl, rfl, rfl⟩, hb⟩
  intro x hx
  simp at hx
  rcases hx with rfl | rfl | rfl | rfl | rfl | rfl | rfl | rfl | rfl | rfl | rfl | rfl | rfl | rfl | rfl | rfl | rfl | rfl | rfl | rfl | rfl | rfl | rfl <;> rfl
theorem fb_rb {w : World} {O : Nat → Prop} {p : Nat} {vf v : Value} {l : List UInt8} (h : FB w O p vf v l) (hl : ∀ k, O k → k < w.heap.size) (hm : l.length ≤ 1000000000000) : RBp w w.heap.size v l := by
  rcases h with ⟨rfl, rfl⟩ | ⟨b, off, cap, h1, _, _, h4, h5, rfl, h7⟩
  · exact ⟨by simp, .inl ⟨rfl, rfl⟩⟩
  · exact ⟨by omega, .inr ⟨b, off, cap, hl b h1, h4, h5, rfl, h7⟩⟩

set_option maxHeartbeats 3200000 in
set_option maxRecDepth 100000 in
theorem npeek_any {w : World} {p i sq : Nat} {vf : Value} {L : List Fl} {O : Nat → Prop} (e : Fl) (hE : ET w) (h : NX w p vf L O) (hi : L[i]? = some e) (hg : GF e sq) :
    Calls Tryz.prog 16 #[.pointer (some ⟨p, 0, none⟩), .int .i64 (i : Int)] w fun ev w' => ∃ M, ev = .returned (.tuple #[.agg M.toArray, .nilIface]) ∧ MS M e.to' sq ∧ Below w.heap.size w w' := by
  obtain ⟨ea, ek, hev⟩ := (h.dat e (List.mem_of_getElem? hi)).slice
  obtain ⟨W, hW⟩ : ∃ W, W = w.alloc (.cells zM 43) := ⟨_, rfl⟩
  have hbW : Below w.heap.size w W := by rw [hW]; exact (Below.refl _ _).alloc (Nat.le_refl _) _
  have hWz : W.heap.size = w.heap.size + 1 := by rw [hW]; simp
  have hWt : W.there w.heap.size 0 23 := by rw [hW]; exact there_new w 43 zM 23 rfl
  have HA := hide (nat_good i e (h.below hbW) hi)
  rw [hev] at HA
  have HM : Hid (∀ w1, Below W.heap.size W w1 → Calls Tryz.prog 24 #[.slice ea e.d.length ek] (w1.alloc (.cells #[.int .i64 e.fr, .int .i64 e.to', .slice ea e.d.length ek] 63)) fun ev w3 => ∃ M, ev = .returned (.tuple #[.agg M.toArray, .nilIface]) ∧ MS M e.to' sq ∧ Hid (w3.there w.heap.size 0 23) ∧ Hid (Below w.heap.size w w3)) := by
    intro w1 hb1
    have hb2 : Below W.heap.size W (w1.alloc (.cells #[.int .i64 e.fr, .int .i64 e.to', .slice ea e.d.length ek] 63)) := hb1.alloc hb1.size _
    have hb3 : Below w.heap.size w (w1.alloc (.cells #[.int .i64 e.fr, .int .i64 e.to', .slice ea e.d.length ek] 63)) := hbW.trans (hb2.mono hbW.size)
    have h3 := h.below hb3
    have hl := nmsg_len _ _ _ hg.lt hg.data
    have hrb := fb_rb (h3.dat e (List.mem_of_getElem? hi)) h3.lt (by omega)
    rw [hev] at hrb
    refine (nread_any (hE.below hb3 hE.lt) hrb hg.lt hg.data).mono ?_
    rintro ev w3 ⟨M, rfl, hM, hb4⟩
    have hb5 : Below w.heap.size w w3 := hb3.trans (hb4.mono hb3.size)
    refine ⟨M, rfl, hM, fun j hj => ?_, hb5⟩
    have hbl : w3.heap[w.heap.size]? = W.heap[w.heap.size]? := (hb4.block _ (by have := hb2.size; omega)).trans (hb2.block _ (by omega))
    have := hWt j hj
    exact ⟨by rw [cell_same hbl]; exact this.1, by have e2 : w3.frozen? ⟨w.heap.size, 0 + j, none⟩ = W.frozen? ⟨w.heap.size, 0 + j, none⟩ := by simp [World.frozen?, hbl]
                                                   rw [e2]; exact this.2⟩
  clear h hi hev hE hg hWt hbW
  go_enter Tryz.func16, Tryz.ntmps16
  go_upto_region 1 with fail
  rw [← hW]
  clear hW
  go_wp2_with (first
    | (go_at_call 22; refine (unhide HA).mono ?_; rintro e0 w1 ⟨rfl, hb1⟩; have P1 := hide (unhide HM w1 hb1); clear hb1 HA HM))
  refine (unhide P1).mono ?_
  rintro e0 w3 ⟨M, rfl, hM, HT, HB⟩
  clear P1
  rename_i K0 hK0
  refine hK0 _ _ ?_
  refine list_to (d := 21) (v := .agg M.toArray) rfl rfl (by go_simp) ?_
  simp only [Act.put, List.setIfInBounds_toArray, List.set_cons_zero, List.set_cons_succ]
  refine list_to (d := 22) (v := .nilIface) rfl rfl (by go_simp) ?_
  simp only [Act.put, List.setIfInBounds_toArray, List.set_cons_zero, List.set_cons_succ]
  refine wpList_store_mid rfl 43 (.tmp 4) (.tmp 21) rfl w.heap.size 0 M.toArray rfl rfl (hM.there (unhide HT)).1 hM.sizeA (all_oneCell_toArray hM.one) ?_
  rw [List.toList_toArray]
  have hr3 := World.rangeAt_setCells_same w3 w.heap.size 0 M (hM.there (unhide HT)).2
  have hb3 : Below w.heap.size w (w3.setCells w.heap.size 0 M) := Below.over (Nat.le_refl _) M _ 0 (unhide HB)
  generalize w3.setCells w.heap.size 0 M = W3 at hr3 hb3 ⊢
  have HR := hide hr3
  clear hr3
  go_wp2
  refine bodyPost_ret (v := .tuple #[.agg M.toArray, .nilIface]) ?_ rfl ⟨M, rfl, hM, hb3⟩
  rw [results_cell_tmp rfl]
  refine (res_addr (b := w.heap.size) ?_).trans ?_
  · rfl
  · rw [run_loadVar_mid W3 w.heap.size 0 43 M _ (unhide HR) Tryz.underlying43 rfl hM.size]
    rfl
end Go.Proofs.YtpepilcdlhkmkaaGreatDoor
