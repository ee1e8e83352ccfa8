/- The net's known example. -/
import Derived.Test.YtahpfhnekmilmaaGreatDoorNState
namespace Go.Proofs.YtahpfhnekmilmaaGreatDoor
open Go.RowKit Go.Lib Go.Maps

/-- A message's variable: where its number is read. -/
theorem ms_seq {w : World} {M : List Value} {to' : Int} {sq : Nat} (h : MS M to' sq) : (w.alloc (.cells M.toArray 43)).cell? ⟨w.heap.size, 14, none⟩ = some (.int .u64 (sq : Int)) := by
  rw [World.cell?_alloc_at _ _ _ _ rfl]; simpa using h.seq
theorem ms_to {w : World} {M : List Value} {to' : Int} {sq : Nat} (h : MS M to' sq) : (w.alloc (.cells M.toArray 43)).cell? ⟨w.heap.size, 2, none⟩ = some (.int .i64 to') := by
  rw [World.cell?_alloc_at _ _ _ _ rfl]; simpa using h.end'
theorem one_b {w a b : World} (h : Below w.heap.size w a) (h' : Below a.heap.size a b) : Below w.heap.size w b := h.trans (h'.mono h.size)

set_option maxHeartbeats 6400000 in
set_option maxRecDepth 100000 in
theorem nknown_any (w : World) (hE : ET w) : Calls Tryz.prog 4 #[] w fun e w' => e = .returned (.bool true) ∧ Below w.heap.size w w' := by
  have HN := hide (ns_new w)
  have HM1 := hide (fun W => nmk_any 0 0 0 1 W)
  have HM2 := hide (fun W => nmk_any 0 0 0 2 W)
  have HS1 := hide (fun W (h : NS w W w.heap.size [] (fun _ => False)) => ns_send 0 1 (by decide) (by decide) h (by decide))
  have HS2 := hide (fun W (h : NS w W w.heap.size [(0, 1)] (fun _ => False)) => ns_send 0 2 (by decide) (by decide) h (by decide))
  have HC := hide (fun W (h : NS w W w.heap.size [(0, 1), (0, 2)] (fun _ => False)) => ns_copy (i := 0) (0, 1) h rfl (by decide))
  have HT := hide (fun W (h : NS w W w.heap.size [(0, 1), (0, 2), (0, 1)] (fun _ => False)) => ns_take (i := 0) (0, 1) (h.et hE) h rfl)
  have HE := hide hE
  clear hE
  go_enter Tryz.func4, Tryz.ntmps4
  go_wp2_with (first
    | (go_at_call 5; refine (unhide HN).mono ?_; clear HN; rintro e w1 ⟨rfl, h1⟩; have N1 := hide h1; clear h1)
    | (go_at_call 7; refine (unhide HM1 _).mono ?_; clear HM1; rintro e w2 ⟨rfl, hb2⟩; have N2 := hide ((unhide N1).below hb2).1; clear hb2 N1)
    | (go_at_call 6; refine (unhide HS1 _ (unhide N2)).mono ?_; clear HS1; rintro e w3 ⟨rfl, h3, _⟩; have N3 := hide h3; clear h3 N2)
    | (go_at_call 7; refine (unhide HM2 _).mono ?_; clear HM2; rintro e w4 ⟨rfl, hb4⟩; have N4 := hide ((unhide N3).below hb4).1; clear hb4 N3)
    | (go_at_call 6; refine (unhide HS2 _ (unhide N4)).mono ?_; clear HS2; rintro e w5 ⟨rfl, h5, _⟩; have N5 := hide h5; clear h5 N4)
    | (go_at_call 11; refine (unhide HC _ (unhide N5)).mono ?_; clear HC; rintro e w6 ⟨rfl, h6, _⟩; have N6 := hide h6; clear h6 N5))
  refine (unhide HT _ (unhide N6)).mono ?_
  rintro e w7 ⟨M, rfl, hM, h7, k7⟩
  clear HT N6 k7
  rename_i K0 hK0
  refine hK0 _ _ ?_
  clear hK0 K0
  refine list_to (d := 28) (v := .tuple #[.agg M.toArray, .nilIface]) rfl rfl (by go_simp) ?_
  simp only [Act.put, List.setIfInBounds_toArray, List.set_cons_zero, List.set_cons_succ]
  refine list_to (d := 31) (v := .agg M.toArray) rfl rfl (by go_simp) ?_
  simp only [Act.put, List.setIfInBounds_toArray, List.set_cons_zero, List.set_cons_succ]
  refine list_to (d := 32) (v := .nilIface) rfl rfl (by go_simp) ?_
  simp only [Act.put, List.setIfInBounds_toArray, List.set_cons_zero, List.set_cons_succ]
  refine wpList_alloc_new rfl 43 rfl zM (zero_of_info Tryz.zeroM).1 ?_
  refine wpList_store_mid rfl 43 (.tmp 2) (.tmp 31) rfl w7.heap.size 0 M.toArray rfl rfl (hM.there (there_new w7 43 zM 23 rfl)).1 hM.sizeA (all_oneCell_toArray hM.one) ?_
  rw [List.toList_toArray, setCells_new w7 43 zM M (by rw [hM.len]; rfl)]
  have Sw8 := ms_seq (w := w7) hM
  have Tw8 := ms_to (w := w7) hM
  have N8 := hide (h7.new (.cells M.toArray 43))
  clear h7
  have zw8 : (w7.alloc (.cells M.toArray 43)).heap.size = w7.heap.size + 1 := by simp
  generalize w7.alloc (.cells M.toArray 43) = w8 at *
  have HP := hide (ns_peek (i := 1) (0, 1) ((unhide N8).et (unhide HE)) (unhide N8) rfl)
  go_wp2_with fail
  refine (unhide HP).mono ?_
  rintro e w9 ⟨M2, rfl, hM2, h9, k9⟩
  have c9 : w9.cell? ⟨w7.heap.size, 14, none⟩ = some (.int .u64 1) := (cell_same (k9 w7.heap.size (.inr rfl)) 14).trans Sw8
  have l9 := h9.lt (.inr rfl : False ∨ w7.heap.size = w7.heap.size)
  clear HP N8 k9
  rename_i K1 hK1
  refine hK1 _ _ ?_
  clear hK1 K1
  refine list_to (d := 33) (v := .tuple #[.agg M2.toArray, .nilIface]) rfl rfl (by go_simp) ?_
  simp only [Act.put, List.setIfInBounds_toArray, List.set_cons_zero, List.set_cons_succ]
  refine list_to (d := 36) (v := .agg M2.toArray) rfl rfl (by go_simp) ?_
  simp only [Act.put, List.setIfInBounds_toArray, List.set_cons_zero, List.set_cons_succ]
  refine list_to (d := 37) (v := .nilIface) rfl rfl (by go_simp) ?_
  simp only [Act.put, List.setIfInBounds_toArray, List.set_cons_zero, List.set_cons_succ]
  refine wpList_alloc_new rfl 43 rfl zM (zero_of_info Tryz.zeroM).1 ?_
  refine wpList_store_mid rfl 43 (.tmp 4) (.tmp 36) rfl w9.heap.size 0 M2.toArray rfl rfl (hM2.there (there_new w9 43 zM 23 rfl)).1 hM2.sizeA (all_oneCell_toArray hM2.one) ?_
  rw [List.toList_toArray, setCells_new w9 43 zM M2 (by rw [hM2.len]; rfl)]
  have Sw10 := ms_seq (w := w9) hM2
  have Tw10 := ms_to (w := w9) hM2
  have c10 : (w9.alloc (.cells M2.toArray 43)).cell? ⟨w7.heap.size, 14, none⟩ = some (.int .u64 1) := (World.cell?_alloc_lt _ _ ⟨w7.heap.size, 14, none⟩ l9).trans c9
  have N10 := hide (h9.new (.cells M2.toArray 43))
  have HL := hide (ns_len (unhide N10))
  clear h9 c9 l9
  have zw10 : (w9.alloc (.cells M2.toArray 43)).heap.size = w9.heap.size + 1 := by simp
  generalize w9.alloc (.cells M2.toArray 43) = w10 at *
  go_wp2_with (first | (go_at_call 12; refine (unhide HL).mono ?_; rintro e w11 ⟨rfl, rfl⟩))
  go_ret
  exact ⟨rfl, (unhide N10).bel⟩
end Go.Proofs.YtahpfhnekmilmaaGreatDoor
/- A net: Send where it is full. -/
namespace Go.Proofs.YtahpfhnekmilmaaGreatDoor
open Go.RowKit Go.Lib Go.Maps

set_option maxHeartbeats 6400000 in
set_option maxRecDepth 100000 in
theorem ns_send_full {w0 w : World} {p : Nat} {A : List (Int × Nat)} {K : Nat → Prop} (to' : Int) (sq : Nat) (hto : -1 ≤ to' ∧ to' ≤ 1000) (hsq : sq < 18446744073709551616) (h : NS w0 w p A K) (hfull : A.length = 4096) :
    Calls Tryz.prog 6 #[.pointer (some ⟨p, 0, none⟩), .agg (mL to' sq).toArray] w fun e w' => e = .returned (.iface 35 (.int .i64 31)) ∧ NS w0 w' p A K ∧ KK K w w' := by
  have h0 := h
  obtain ⟨⟨vf, L, O, hx, hf, hO⟩, h2, h3⟩ := h
  obtain ⟨d, hd⟩ := nmsg_some to' sq hto hsq
  obtain ⟨W, hW⟩ : ∃ W, w.alloc (.cells (mL to' sq).toArray 43) = W := ⟨_, rfl⟩
  have hbW : Below w.heap.size w W := by rw [← hW]; exact (Below.refl _ _).alloc (Nat.le_refl _) _
  have hWz : W.heap.size = w.heap.size + 1 := by rw [← hW]; simp
  have hWn : W.heap[w.heap.size]? = some (.cells (mL to' sq).toArray 43 (0, 0)) := by rw [← hW]; exact (MapKept.heap_alloc w _).1
  have HR : Hid (W.rangeAt w.heap.size 0 (mL to' sq)) := by rw [← hW]; exact range_new w 43 (mL to' sq)
  have HP : Hid (Calls Tryz.prog 15 #[.agg (mL to' sq).toArray] W fun e w2 => ∃ a k, e = .returned (.tuple #[.slice a d.length k, .nilIface]) ∧ w2.cell? ⟨w.heap.size, 1, none⟩ = some (.int .i64 1) ∧ w2.cell? ⟨w.heap.size, 2, none⟩ = some (.int .i64 to') ∧
      Hid (Calls Tryz.prog 17 #[.pointer (some ⟨p, 0, none⟩), .agg #[.int .i64 1, .int .i64 to', .slice a d.length k]] w2 fun e w3 => e = .returned (.iface 35 (.int .i64 31)) ∧ Hid (Below w.heap.size w w3))) := by
    have hput := putMsg_any 1 1 to' 0 0 0 (.slice none 0 0) 0 0 false 0 (.slice none 0 0) false 0 sq ⟨#[]⟩ 0 0 (.slice none 0 0) (.slice none 0 0) 0 0 0 [] [] [] [] W (by decide) (by decide) (by decide) (by decide) (by decide) (by decide) hsq (by decide) (by decide) (by show (0 : Nat) ≤ maxLen; exact Nat.zero_le _) (msg_empty W)
    refine hput.mono ?_
    rw [List.map_nil, hd]
    rintro e w2 ⟨a, k, rfl, hrow, hb⟩
    have hB : Below w.heap.size w w2 := hbW.trans (hb.mono hbW.size)
    have hn2 : w2.heap[w.heap.size]? = some (.cells (mL to' sq).toArray 43 (0, 0)) := (hb.block _ (by omega)).trans hWn
    refine ⟨a, k, rfl, by rw [(cellB hn2 1).1]; rfl, by rw [(cellB hn2 2).1]; rfl, ?_⟩
    refine (nadd_full 1 to' a d.length k (hx.below hB) (by rw [hf.1]; exact hfull)).mono ?_
    rintro e w3 ⟨rfl, hb3⟩
    exact ⟨rfl, one_b hB hb3⟩
  clear hd hbW hWn hWz hx hf hO h2 h3 hfull
  have H0 := hide h0
  clear h0
  go_enter Tryz.func6, Tryz.ntmps6
  go_upto_region 1 with fail
  refine wp_region_list ?_
  refine wpList_load_mid rfl 43 (.tmp 3) rfl w.heap.size 0 rfl (mL to' sq) _ (unhide HR) Tryz.underlying43 rfl Tryz.sizeM ?_
  go_wp2_with (first
    | (go_at_call 15; refine (unhide HP).mono ?_; rintro e w2 ⟨a, k, rfl, c1, c2, PA⟩; clear HP)
    | (go_at_call 17; refine (unhide PA).mono ?_; rintro e w3 ⟨rfl, H3⟩; clear PA))
  go_ret
  exact ⟨rfl, (unhide H0).below (unhide H3)⟩
end Go.Proofs.YtahpfhnekmilmaaGreatDoor
