/- consistoryworld.Stmt of a DELETE. -/
import Derived.Test.YtehgoioinogmkaaGreatDoorXParse
namespace Go.Proofs.YtehgoioinogmkaaGreatDoor
open Go.RowKit Go.Lib

/-- What it tells: a statement whose Where is the text's condition. -/
def WsP (l : List UInt8) (w : World) (e : Ending) (w' : World) : Prop :=
  ∃ (k : Int) (nm : List UInt8) (M : List Value), e = .returned (.agg (stC k nm M).toArray) ∧ ExM w' (fun b => w.heap.size ≤ b) M (whereL l) ∧ Below w.heap.size w w'
set_option linter.unusedSimpArgs false in
set_option maxHeartbeats 6400000 in
set_option maxRecDepth 100000 in
theorem wstmt_any (l : List UInt8) (w : World) (hl : l.length ≤ 2000) (hD : ∀ ts, lexL l 0 = .ok ts → isS (ts ++ [(⟨0, [], l.length⟩ : Tk)]) 2 [68, 69, 76, 69, 84, 69] ⟨0, 0, 0, 0⟩ = true) :
    Calls Tryz.prog 30 #[sv l] w (WsP l w) := by
  obtain ⟨PP, hPP⟩ : ∃ PP, PP = WsP l w := ⟨_, rfl⟩
  have HPP := hide hPP
  rw [← hPP]
  clear hPP
  have HPA := hide (parse_any l (w.alloc (.cells (stC 0 [] zL).toArray 79)) hl hD)
  clear hD
  go_enter Tryz.func30, Tryz.ntmps30
  go_upto_region 1 with fail
  refine wp_region_list ?_
  refine list_to (d := 7) (v := sv l) rfl rfl (by kernel_rfl) ?_
  simp only [Act.put, sA, sB, sC]
  refine list_call rfl (some 8) rfl 51 #[sv l] (by kernel_rfl) (unhide HPA) ?_
  rintro e w1 ⟨k, nm, M, a, b, rfl, hx, hb⟩
  refine ⟨_, rfl, ?_⟩
  simp only [Act.put, sA, sB, sC]
  refine list_to (d := 6) (v := .tuple #[.agg (stC k nm M).toArray, .int .i64 a, .int .i64 b]) rfl rfl (by kernel_rfl) ?_
  simp only [Act.put, sA, sB, sC]
  refine list_to (d := 9) (v := .agg (stC k nm M).toArray) rfl rfl (by kernel_rfl) ?_
  simp only [Act.put, sA, sB, sC]
  refine list_to (d := 10) (v := .int .i64 a) rfl rfl (by kernel_rfl) ?_
  simp only [Act.put, sA, sB, sC]
  refine list_to (d := 11) (v := .int .i64 b) rfl rfl (by kernel_rfl) ?_
  simp only [Act.put, sA, sB, sC]
  refine list_new rfl 79 rfl (stC 0 [] zL).toArray (zero_of_info zeroSt).1 ?_
  simp only [Act.put, sA, sB, sC]
  have hlM := hx.len
  have hz37 : (stC k nm M).toArray.size = 37 := by simpa using stC_len hlM
  have hO := (VrS.new w (D := stC 0 [] zL) rfl).below hb
  have hz0 : (w.alloc (.cells (stC 0 [] zL).toArray 79)).heap.size = w.heap.size + 1 := by simp
  have hvn := VrS.new w1 (D := stC 0 [] zL) rfl
  have hal : Below w1.heap.size w1 (w1.alloc (.cells (stC 0 [] zL).toArray 79)) := alX (Below.refl _ _) _
  have hlt : w.heap.size < w1.heap.size := ltX hO.blk
  have hone := hx.one
  refine wpList_store_mid rfl 79 (.tmp 3) (.tmp 9) rfl w1.heap.size 0 (stC k nm M).toArray rfl rfl (by rw [hz37]; exact hvn.there 0 37 (by decide)) (by rw [hz37]; exact sizeSt) (all_oneCell_toArray (stC_one hone)) ?_
  show wpList _ _ _ _ _ ((w1.alloc (.cells (stC 0 [] zL).toArray 79)).setCells w1.heap.size 0 (stC k nm M))
  have HV := hide (hvn.set (D' := stC k nm M) (stC_len hlM))
  have HO := hide ((hO.below hal).keep (setCells_heap w1.heap.size (stC k nm M) 0 (w1.alloc (.cells (stC 0 [] zL).toArray 79)) w.heap.size (by omega)))
  have HX : Hid (ExM ((w1.alloc (.cells (stC 0 [] zL).toArray 79)).setCells w1.heap.size 0 (stC k nm M)) (fun b => w.heap.size < b) M (whereL l)) := by
    refine hx.keep (fun b q hb1 => ?_) (fun b _ q => by omega)
    exact (setCells_heap w1.heap.size (stC k nm M) 0 (w1.alloc (.cells (stC 0 [] zL).toArray 79)) b (by omega)).trans (hal.block b hb1)
  have HB : Hid (Below w.heap.size w ((w1.alloc (.cells (stC 0 [] zL).toArray 79)).setCells w1.heap.size 0 (stC k nm M))) := by
    obtain ⟨e1, e2, e3, e4⟩ := setCells_env w1.heap.size (stC k nm M) 0 (w1.alloc (.cells (stC 0 [] zL).toArray 79))
    have h0 := trX (alX (Below.refl w.heap.size w) (.cells (stC 0 [] zL).toArray 79)) hb
    exact ⟨e1.trans (hal.os.trans h0.os), e2.trans (hal.tape.trans h0.tape), e3.trans (hal.output.trans h0.output), by rw [e4]; exact Nat.le_trans h0.size hal.size, fun j hj => (setCells_heap w1.heap.size (stC k nm M) 0 (w1.alloc (.cells (stC 0 [] zL).toArray 79)) j (by omega)).trans ((hal.block j (by omega)).trans (h0.block j hj))⟩
  obtain ⟨b3, hb3⟩ : ∃ b3, b3 = w1.heap.size := ⟨_, rfl⟩
  obtain ⟨w2, hw2⟩ : ∃ w2, w2 = (w1.alloc (.cells (stC 0 [] zL).toArray 79)).setCells w1.heap.size 0 (stC k nm M) := ⟨_, rfl⟩
  rw [← hw2] at HV HO HX HB
  rw [← hw2]
  rw [← hb3] at HV
  rw [← hb3]
  clear hw2 hb3 hvn hO hz0 hal hx hb hlt
  simp only [Act.put, sA, sB, sC]
  refine list_to (d := 4) (v := .int .i64 a) rfl rfl (by kernel_rfl) ?_
  simp only [Act.put, sA, sB, sC]
  refine list_to (d := 5) (v := .int .i64 b) rfl rfl (by kernel_rfl) ?_
  simp only [Act.put, sA, sB, sC]
  go_upto_region 2 with fail
  refine wp_region_list ?_
  refine wpList_load_mid rfl 79 (.tmp 3) rfl b3 0 rfl (stC k nm M) _ (unhide HV).range Tryz.underlying79 rfl (by rw [(unhide HV).len]; exact sizeSt) ?_
  simp only [Act.put, sA, sB, sC]
  refine wpList_store_mid rfl 79 (.tmp 2) (.tmp 12) rfl w.heap.size 0 (stC k nm M).toArray rfl rfl (by rw [hz37]; exact (unhide HO).there 0 37 (by decide)) (by rw [hz37]; exact sizeSt) (all_oneCell_toArray (stC_one hone)) ?_
  show wpList _ _ _ _ _ (w2.setCells w.heap.size 0 (stC k nm M))
  simp only [Act.put, sA, sB, sC]
  go_wp2_with fail
  have hs := (unhide HO).set (D' := stC k nm M) (stC_len hlM)
  have hbb := setCells_low (unhide HB) (stC k nm M)
  have hx2 := ((unhide HX).setCells' (b := w.heap.size) (fun h => Nat.lt_irrefl _ h) 0 (stC k nm M)).keep (Q' := fun b => w.heap.size ≤ b) (fun _ _ _ => rfl) (fun b _ h => Nat.le_of_lt h)
  refine bodyPost_ret (hs.result rfl _ rfl) rfl ?_
  rw [unhide HPP]
  exact ⟨k, nm, M, rfl, hx2, hbb⟩
end Go.Proofs.YtehgoioinogmkaaGreatDoor
/- The tokens of a DELETE: its first four, and those of its condition. -/
namespace Go.Proofs.YtehgoioinogmkaaGreatDoor
open Go.RowKit Go.Lib

def dlL : List UInt8 := [68, 69, 76, 69, 84, 69, 32, 70, 82, 79, 77, 32, 116, 32, 87, 72, 69, 82, 69, 32]
theorem lexL_piece {l : List UInt8} {a k m : Nat} (h : pieceL l = .ok (k, m)) : lexL l a = match lexL (l.drop m) (a + m) with
    | .error e => .error e
    | .ok t => .ok (if k = 0 then t else ⟨(tokL k (l.take m)).1, (tokL k (l.take m)).2, a⟩ :: t) := by
  have hs := piece_size h
  cases l with
  | nil => cases h
  | cons c r =>
    unfold lexL
    rw [List.length_cons, lexF, if_neg (by simp), h]
    dsimp only
    rw [lexF_more r.length ((c :: r).drop m).length _ _ (by rw [List.length_drop, List.length_cons]; omega) (Nat.le_refl _)]
    cases lexF ((c :: r).drop m).length ((c :: r).drop m) (a + m) with
    | error e => rfl
    | ok t => rfl
theorem lex_delete (l : List UInt8) (a : Nat) : lexL (dlL ++ l) a = match lexL l (a + 20) with
    | .error e => .error e
    | .ok t => .ok (⟨2, [68, 69, 76, 69, 84, 69], a⟩ :: ⟨2, [70, 82, 79, 77], a + 7⟩ :: ⟨1, [116], a + 12⟩ :: ⟨2, [87, 72, 69, 82, 69], a + 14⟩ :: t) := by
  have p1 : pieceL (dlL ++ l) = .ok (1, 6) := by rfl
  rw [lexL_piece p1]
  have p2 : lexL ((dlL ++ l).drop 6) (a + 6) = lexL ([70, 82, 79, 77, 32, 116, 32, 87, 72, 69, 82, 69, 32] ++ l) (a + 6 + 1) := lexL_blank (by decide) _ _
  rw [p2]
  have p3 : pieceL ([70, 82, 79, 77, 32, 116, 32, 87, 72, 69, 82, 69, 32] ++ l) = .ok (1, 4) := by rfl
  rw [lexL_piece p3]
  have p4 : lexL (([70, 82, 79, 77, 32, 116, 32, 87, 72, 69, 82, 69, 32] ++ l).drop 4) (a + 6 + 1 + 4) = lexL ([116, 32, 87, 72, 69, 82, 69, 32] ++ l) (a + 6 + 1 + 4 + 1) := lexL_blank (by decide) _ _
  rw [p4]
  have p5 : pieceL ([116, 32, 87, 72, 69, 82, 69, 32] ++ l) = .ok (1, 1) := by rfl
  rw [lexL_piece p5]
  have p6 : lexL (([116, 32, 87, 72, 69, 82, 69, 32] ++ l).drop 1) (a + 6 + 1 + 4 + 1 + 1) = lexL ([87, 72, 69, 82, 69, 32] ++ l) (a + 6 + 1 + 4 + 1 + 1 + 1) := lexL_blank (by decide) _ _
  rw [p6]
  have p7 : pieceL ([87, 72, 69, 82, 69, 32] ++ l) = .ok (1, 5) := by rfl
  rw [lexL_piece p7]
  have p8 : lexL (([87, 72, 69, 82, 69, 32] ++ l).drop 5) (a + 6 + 1 + 4 + 1 + 1 + 1 + 5) = lexL l (a + 6 + 1 + 4 + 1 + 1 + 1 + 5 + 1) := lexL_blank (by decide) _ _
  rw [p8]
  cases lexL l (a + 6 + 1 + 4 + 1 + 1 + 1 + 5 + 1) with
  | error e => rfl
  | ok t => rfl
theorem delete_first (l : List UInt8) : ∀ ts, lexL (dlL ++ l) 0 = .ok ts → isS (ts ++ [(⟨0, [], (dlL ++ l).length⟩ : Tk)]) 2 [68, 69, 76, 69, 84, 69] ⟨0, 0, 0, 0⟩ = true := by
  intro ts h
  rw [lex_delete] at h
  cases hl : lexL l (0 + 20) with
  | error e => rw [hl] at h; cases h
  | ok t =>
    rw [hl] at h
    injection h with h
    subst h
    rfl
end Go.Proofs.YtehgoioinogmkaaGreatDoor
