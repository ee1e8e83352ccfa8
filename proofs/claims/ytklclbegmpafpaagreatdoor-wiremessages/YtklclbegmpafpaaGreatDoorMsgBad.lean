/- Contract of wire.Msg at bytes that are no message: a fault of class 20. -/
import Derived.Test.YtklclbegmpafpaaGreatDoorMsgGood
namespace Go.Proofs.YtklclbegmpafpaaGreatDoor
open Go.RowKit Go.Lib

theorem there_below {w w' : World} {b o n B : Nat} (h : w.there b o n) (hb : Below B w w') (hB : b < B) : w'.there b o n := fun j hj => by
  obtain ⟨h1, h2⟩ := h j hj
  exact ⟨by rw [hb.cell (p := ⟨b, o + j, none⟩) hB]; exact h1, by rw [hb.frozen (p := ⟨b, o + j, none⟩) hB]; exact h2⟩
theorem ErrAt.swap {w w' : World} {b E : Nat} {pl c x : Int} (h : ErrAt w b pl c) (hb : ∀ k, k ≠ E → w'.heap[k]? = w.heap[k]?) (hx : w.cell? ⟨E, 1, none⟩ = some (.int .i64 x)) : ErrAt w' b pl c := by
  have hne : b ≠ E := by
    rintro rfl
    rw [h.2] at hx; cases hx
  exact ⟨(World.cell?_of_block (w := w) (a := ⟨b, 0, none⟩) (hb b hne)).trans h.1, (World.cell?_of_block (w := w) (a := ⟨b, 1, none⟩) (hb b hne)).trans h.2⟩
/-- What wire.Msg tells of bytes that are no message. -/
def MsgBad (w : World) (e : Ending) (w' : World) : Prop := ∃ b pl, e = .returned (.tuple #[.agg #[.int .i64 0, .int .i64 0, .int .i64 0, .int .u64 0, .int .u64 0, .int .u64 0, .slice none 0 0, .int .u64 0, .int .u64 0, .bool false, .int .i64 0, .slice none 0 0, .bool false, .int .u64 0, .int .u64 0, .string ⟨#[]⟩, .int .u64 0, .int .i64 0, .slice none 0 0, .slice none 0 0, .int .i64 0, .int .u64 0, .int .i64 0], ev b]) ∧ ErrAt w' b pl 20 ∧ Below w.heap.size w w'

set_option maxHeartbeats 6400000 in
set_option maxRecDepth 100000 in
theorem msg_fails (x0 x1 x2 : Int) (x3 x4 x5 : Nat) (x6 : List GE) (x7 x8 : Nat) (x9 : Bool) (x10 : Int) (x11 : List UInt8) (x12 : Bool) (x13 x14 : Nat) (x15 : ByteArray) (y0 : Nat) (y1 : Int) (y2 : List ByteArray) (y3 : List (List GV)) (y4 : Int) (y5 : Nat) (x17 : Int) (v : Value) (l : List UInt8) (w : World) (hE : ET w) (hv : RBp w w.heap.size v l) (c : Nat) (hc : c = 20 ∨ c = 22) (hm : rdMsg l (.ok 0) = ((x0, x1, x2, x3, x4, x5, x6, x7, x8, x9, x10, x11, x12, x13, x14, x15, (y0, y1, y2, y3, y4, y5), x17), .error c)) :
    Calls Tryz.prog 9 #[v] w fun e w' => MsgBad w e w' := by
  obtain ⟨av, kv, rfl⟩ := rb_len hv
  have hb0 : Below w.heap.size w (w.alloc (.cells #[.int .i64 0, .int .i64 0, .int .i64 0, .int .u64 0, .int .u64 0, .int .u64 0, .slice none 0 0, .int .u64 0, .int .u64 0, .bool false, .int .i64 0, .slice none 0 0, .bool false, .int .u64 0, .int .u64 0, .string ⟨#[]⟩, .int .u64 0, .int .i64 0, .slice none 0 0, .slice none 0 0, .int .i64 0, .int .u64 0, .int .i64 0] 33)) := (Below.refl _ _).alloc (Nat.le_refl _) _
  have hR0 := RS.new (w.alloc (.cells #[.int .i64 0, .int .i64 0, .int .i64 0, .int .u64 0, .int .u64 0, .int .u64 0, .slice none 0 0, .int .u64 0, .int .u64 0, .bool false, .int .i64 0, .slice none 0 0, .bool false, .int .u64 0, .int .u64 0, .string ⟨#[]⟩, .int .u64 0, .int .i64 0, .slice none 0 0, .slice none 0 0, .int .i64 0, .int .u64 0, .int .i64 0] 33)) (.slice av l.length kv) l (hE.alloc _) (rb_later hv hb0 (by simp))
  rw [World.size_alloc] at hR0
  have HR := hide (rmsg_all (w.heap.size + 1) x0 x1 x2 x3 x4 x5 x6 x7 x8 x9 x10 x11 x12 x13 x14 x15 y0 y1 y2 y3 y4 y5 x17 l (.ok 0) _ _ hR0 hm)
  have HB := hide (hb0.alloc (by simp) (.cells #[.slice av l.length kv, .int .i64 0, .nilIface] 78))
  have HK := hide ((Blk.new w 33 #[.int .i64 0, .int .i64 0, .int .i64 0, .int .u64 0, .int .u64 0, .int .u64 0, .slice none 0 0, .int .u64 0, .int .u64 0, .bool false, .int .i64 0, .slice none 0 0, .bool false, .int .u64 0, .int .u64 0, .string ⟨#[]⟩, .int .u64 0, .int .i64 0, .slice none 0 0, .slice none 0 0, .int .i64 0, .int .u64 0, .int .i64 0]).alloc (.cells #[.slice av l.length kv, .int .i64 0, .nilIface] 78))
  clear hE hv hm hR0 hb0
  go_enter Tryz.func9, Tryz.ntmps9
  go_wp2_with fail
  refine (unhide HR).mono ?_
  rintro e w1 ⟨a6, m6, k6, aD, mD, kD, a2, m2, k2, a3, m3, k3, rfl, r1, f1, -⟩
  clear HR
  have z1 := r1.lt
  have N1 := hide (Blk.new w1 33 #[.int .i64 0, .int .i64 0, .int .i64 0, .int .u64 0, .int .u64 0, .int .u64 0, .slice none 0 0, .int .u64 0, .int .u64 0, .bool false, .int .i64 0, .slice none 0 0, .bool false, .int .u64 0, .int .u64 0, .string ⟨#[]⟩, .int .u64 0, .int .i64 0, .slice none 0 0, .slice none 0 0, .int .i64 0, .int .u64 0, .int .i64 0])
  have R1 := hide (RS.swap (w' := ((w1.alloc (.cells #[.int .i64 0, .int .i64 0, .int .i64 0, .int .u64 0, .int .u64 0, .int .u64 0, .slice none 0 0, .int .u64 0, .int .u64 0, .bool false, .int .i64 0, .slice none 0 0, .bool false, .int .u64 0, .int .u64 0, .string ⟨#[]⟩, .int .u64 0, .int .i64 0, .slice none 0 0, .slice none 0 0, .int .i64 0, .int .u64 0, .int .i64 0] 33)).setCells w1.heap.size 0 [.int .i64 x0, .int .i64 x1, .int .i64 x2, .int .u64 (x3 : Nat), .int .u64 (x4 : Nat), .int .u64 (x5 : Nat), .slice a6 m6 k6, .int .u64 (x7 : Nat), .int .u64 (x8 : Nat), .bool x9, .int .i64 x10, .slice aD mD kD, .bool x12, .int .u64 (x13 : Nat), .int .u64 (x14 : Nat), .string x15, .int .u64 (y0 : Nat), .int .i64 y1, .slice a2 m2 k2, .slice a3 m3 k3, .int .i64 y4, .int .u64 (y5 : Nat), .int .i64 x17])) (E := w1.heap.size) (r1.alloc (.cells #[.int .i64 0, .int .i64 0, .int .i64 0, .int .u64 0, .int .u64 0, .int .u64 0, .slice none 0 0, .int .u64 0, .int .u64 0, .bool false, .int .i64 0, .slice none 0 0, .bool false, .int .u64 0, .int .u64 0, .string ⟨#[]⟩, .int .u64 0, .int .i64 0, .slice none 0 0, .slice none 0 0, .int .i64 0, .int .u64 0, .int .i64 0] 33)) (fun k hk => over_other _ [.int .i64 x0, .int .i64 x1, .int .i64 x2, .int .u64 (x3 : Nat), .int .u64 (x4 : Nat), .int .u64 (x5 : Nat), .slice a6 m6 k6, .int .u64 (x7 : Nat), .int .u64 (x8 : Nat), .bool x9, .int .i64 x10, .slice aD mD kD, .bool x12, .int .u64 (x13 : Nat), .int .u64 (x14 : Nat), .string x15, .int .u64 (y0 : Nat), .int .i64 y1, .slice a2 m2 k2, .slice a3 m3 k3, .int .i64 y4, .int .u64 (y5 : Nat), .int .i64 x17] _ 0 k hk) z1 ((unhide N1).cell 1 _ rfl))
  have F1 := hide f1
  have K1 := hide ((unhide HK).fq f1 (by omega))
  have hs1 := f1.1.size
  simp at hs1
  have T1 := hide (show ((w1.alloc (.cells #[.int .i64 0, .int .i64 0, .int .i64 0, .int .u64 0, .int .u64 0, .int .u64 0, .slice none 0 0, .int .u64 0, .int .u64 0, .bool false, .int .i64 0, .slice none 0 0, .bool false, .int .u64 0, .int .u64 0, .string ⟨#[]⟩, .int .u64 0, .int .i64 0, .slice none 0 0, .slice none 0 0, .int .i64 0, .int .u64 0, .int .i64 0] 33)).setCells w1.heap.size 0 [.int .i64 x0, .int .i64 x1, .int .i64 x2, .int .u64 (x3 : Nat), .int .u64 (x4 : Nat), .int .u64 (x5 : Nat), .slice a6 m6 k6, .int .u64 (x7 : Nat), .int .u64 (x8 : Nat), .bool x9, .int .i64 x10, .slice aD mD kD, .bool x12, .int .u64 (x13 : Nat), .int .u64 (x14 : Nat), .string x15, .int .u64 (y0 : Nat), .int .i64 y1, .slice a2 m2 k2, .slice a3 m3 k3, .int .i64 y4, .int .u64 (y5 : Nat), .int .i64 x17]).there w.heap.size 0 23 from World.there_setCells (((unhide K1).alloc _).there rfl) _ _ _)
  have C1 : Hid (((w1.alloc (.cells #[.int .i64 0, .int .i64 0, .int .i64 0, .int .u64 0, .int .u64 0, .int .u64 0, .slice none 0 0, .int .u64 0, .int .u64 0, .bool false, .int .i64 0, .slice none 0 0, .bool false, .int .u64 0, .int .u64 0, .string ⟨#[]⟩, .int .u64 0, .int .i64 0, .slice none 0 0, .slice none 0 0, .int .i64 0, .int .u64 0, .int .i64 0] 33)).setCells w1.heap.size 0 [.int .i64 x0, .int .i64 x1, .int .i64 x2, .int .u64 (x3 : Nat), .int .u64 (x4 : Nat), .int .u64 (x5 : Nat), .slice a6 m6 k6, .int .u64 (x7 : Nat), .int .u64 (x8 : Nat), .bool x9, .int .i64 x10, .slice aD mD kD, .bool x12, .int .u64 (x13 : Nat), .int .u64 (x14 : Nat), .string x15, .int .u64 (y0 : Nat), .int .i64 y1, .slice a2 m2 k2, .slice a3 m3 k3, .int .i64 y4, .int .u64 (y5 : Nat), .int .i64 x17]).cell? ⟨w.heap.size, 1, none⟩ = some (.int .i64 0)) := by
    have := World.cell?_of_block (w := w1.alloc (.cells #[.int .i64 0, .int .i64 0, .int .i64 0, .int .u64 0, .int .u64 0, .int .u64 0, .slice none 0 0, .int .u64 0, .int .u64 0, .bool false, .int .i64 0, .slice none 0 0, .bool false, .int .u64 0, .int .u64 0, .string ⟨#[]⟩, .int .u64 0, .int .i64 0, .slice none 0 0, .slice none 0 0, .int .i64 0, .int .u64 0, .int .i64 0] 33)) (a := ⟨w.heap.size, 1, none⟩) (over_other w1.heap.size [.int .i64 x0, .int .i64 x1, .int .i64 x2, .int .u64 (x3 : Nat), .int .u64 (x4 : Nat), .int .u64 (x5 : Nat), .slice a6 m6 k6, .int .u64 (x7 : Nat), .int .u64 (x8 : Nat), .bool x9, .int .i64 x10, .slice aD mD kD, .bool x12, .int .u64 (x13 : Nat), .int .u64 (x14 : Nat), .string x15, .int .u64 (y0 : Nat), .int .i64 y1, .slice a2 m2 k2, .slice a3 m3 k3, .int .i64 y4, .int .u64 (y5 : Nat), .int .i64 x17] (w1.alloc (.cells #[.int .i64 0, .int .i64 0, .int .i64 0, .int .u64 0, .int .u64 0, .int .u64 0, .slice none 0 0, .int .u64 0, .int .u64 0, .bool false, .int .i64 0, .slice none 0 0, .bool false, .int .u64 0, .int .u64 0, .string ⟨#[]⟩, .int .u64 0, .int .i64 0, .slice none 0 0, .slice none 0 0, .int .i64 0, .int .u64 0, .int .i64 0] 33)) 0 w.heap.size (by omega))
    exact this.trans (((unhide K1).alloc _).cell 1 _ rfl)
  have B1 : Hid (Below w.heap.size w ((w1.alloc (.cells #[.int .i64 0, .int .i64 0, .int .i64 0, .int .u64 0, .int .u64 0, .int .u64 0, .slice none 0 0, .int .u64 0, .int .u64 0, .bool false, .int .i64 0, .slice none 0 0, .bool false, .int .u64 0, .int .u64 0, .string ⟨#[]⟩, .int .u64 0, .int .i64 0, .slice none 0 0, .slice none 0 0, .int .i64 0, .int .u64 0, .int .i64 0] 33)).setCells w1.heap.size 0 [.int .i64 x0, .int .i64 x1, .int .i64 x2, .int .u64 (x3 : Nat), .int .u64 (x4 : Nat), .int .u64 (x5 : Nat), .slice a6 m6 k6, .int .u64 (x7 : Nat), .int .u64 (x8 : Nat), .bool x9, .int .i64 x10, .slice aD mD kD, .bool x12, .int .u64 (x13 : Nat), .int .u64 (x14 : Nat), .string x15, .int .u64 (y0 : Nat), .int .i64 y1, .slice a2 m2 k2, .slice a3 m3 k3, .int .i64 y4, .int .u64 (y5 : Nat), .int .i64 x17])) := Below.over (by omega) [.int .i64 x0, .int .i64 x1, .int .i64 x2, .int .u64 (x3 : Nat), .int .u64 (x4 : Nat), .int .u64 (x5 : Nat), .slice a6 m6 k6, .int .u64 (x7 : Nat), .int .u64 (x8 : Nat), .bool x9, .int .i64 x10, .slice aD mD kD, .bool x12, .int .u64 (x13 : Nat), .int .u64 (x14 : Nat), .string x15, .int .u64 (y0 : Nat), .int .i64 y1, .slice a2 m2 k2, .slice a3 m3 k3, .int .i64 y4, .int .u64 (y5 : Nat), .int .i64 x17] _ 0 (((unhide HB).trans ((unhide F1).1.mono (by omega))).alloc (by omega) _)
  have hz2 : w1.heap.size < ((w1.alloc (.cells #[.int .i64 0, .int .i64 0, .int .i64 0, .int .u64 0, .int .u64 0, .int .u64 0, .slice none 0 0, .int .u64 0, .int .u64 0, .bool false, .int .i64 0, .slice none 0 0, .bool false, .int .u64 0, .int .u64 0, .string ⟨#[]⟩, .int .u64 0, .int .i64 0, .slice none 0 0, .slice none 0 0, .int .i64 0, .int .u64 0, .int .i64 0] 33)).setCells w1.heap.size 0 [.int .i64 x0, .int .i64 x1, .int .i64 x2, .int .u64 (x3 : Nat), .int .u64 (x4 : Nat), .int .u64 (x5 : Nat), .slice a6 m6 k6, .int .u64 (x7 : Nat), .int .u64 (x8 : Nat), .bool x9, .int .i64 x10, .slice aD mD kD, .bool x12, .int .u64 (x13 : Nat), .int .u64 (x14 : Nat), .string x15, .int .u64 (y0 : Nat), .int .i64 y1, .slice a2 m2 k2, .slice a3 m3 k3, .int .i64 y4, .int .u64 (y5 : Nat), .int .i64 x17]).heap.size := by
    rw [show ((w1.alloc (.cells #[.int .i64 0, .int .i64 0, .int .i64 0, .int .u64 0, .int .u64 0, .int .u64 0, .slice none 0 0, .int .u64 0, .int .u64 0, .bool false, .int .i64 0, .slice none 0 0, .bool false, .int .u64 0, .int .u64 0, .string ⟨#[]⟩, .int .u64 0, .int .i64 0, .slice none 0 0, .slice none 0 0, .int .i64 0, .int .u64 0, .int .i64 0] 33)).setCells w1.heap.size 0 [.int .i64 x0, .int .i64 x1, .int .i64 x2, .int .u64 (x3 : Nat), .int .u64 (x4 : Nat), .int .u64 (x5 : Nat), .slice a6 m6 k6, .int .u64 (x7 : Nat), .int .u64 (x8 : Nat), .bool x9, .int .i64 x10, .slice aD mD kD, .bool x12, .int .u64 (x13 : Nat), .int .u64 (x14 : Nat), .string x15, .int .u64 (y0 : Nat), .int .i64 y1, .slice a2 m2 k2, .slice a3 m3 k3, .int .i64 y4, .int .u64 (y5 : Nat), .int .i64 x17]).heap.size = _ from over_size w1.heap.size [.int .i64 x0, .int .i64 x1, .int .i64 x2, .int .u64 (x3 : Nat), .int .u64 (x4 : Nat), .int .u64 (x5 : Nat), .slice a6 m6 k6, .int .u64 (x7 : Nat), .int .u64 (x8 : Nat), .bool x9, .int .i64 x10, .slice aD mD kD, .bool x12, .int .u64 (x13 : Nat), .int .u64 (x14 : Nat), .string x15, .int .u64 (y0 : Nat), .int .i64 y1, .slice a2 m2 k2, .slice a3 m3 k3, .int .i64 y4, .int .u64 (y5 : Nat), .int .i64 x17] _ 0]; simp
  clear r1 f1 HK HB F1 K1
  rename_i K0 hK0
  refine hK0 _ _ ?_
  refine wpList_alloc_new rfl 33 rfl #[.int .i64 0, .int .i64 0, .int .i64 0, .int .u64 0, .int .u64 0, .int .u64 0, .slice none 0 0, .int .u64 0, .int .u64 0, .bool false, .int .i64 0, .slice none 0 0, .bool false, .int .u64 0, .int .u64 0, .string ⟨#[]⟩, .int .u64 0, .int .i64 0, .slice none 0 0, .slice none 0 0, .int .i64 0, .int .u64 0, .int .i64 0] (zero_of_info Tryz.zeroM).1 ?_
  refine wpList_store_mid rfl 33 (.tmp 5) (.tmp 8) rfl w1.heap.size 0 #[.int .i64 x0, .int .i64 x1, .int .i64 x2, .int .u64 (x3 : Nat), .int .u64 (x4 : Nat), .int .u64 (x5 : Nat), .slice a6 m6 k6, .int .u64 (x7 : Nat), .int .u64 (x8 : Nat), .bool x9, .int .i64 x10, .slice aD mD kD, .bool x12, .int .u64 (x13 : Nat), .int .u64 (x14 : Nat), .string x15, .int .u64 (y0 : Nat), .int .i64 y1, .slice a2 m2 k2, .slice a3 m3 k3, .int .i64 y4, .int .u64 (y5 : Nat), .int .i64 x17] rfl rfl ((unhide N1).there rfl) Tryz.sizeM (all_oneCell_toArray (by intro v hv; simp at hv; rcases hv with rfl | rfl | rfl | rfl | rfl | rfl | rfl | rfl | rfl | rfl | rfl | rfl | rfl | rfl | rfl | rfl | rfl | rfl | rfl | rfl | rfl | rfl | rfl <;> rfl)) ?_
  clear N1
  rw [show (#[.int .i64 x0, .int .i64 x1, .int .i64 x2, .int .u64 (x3 : Nat), .int .u64 (x4 : Nat), .int .u64 (x5 : Nat), .slice a6 m6 k6, .int .u64 (x7 : Nat), .int .u64 (x8 : Nat), .bool x9, .int .i64 x10, .slice aD mD kD, .bool x12, .int .u64 (x13 : Nat), .int .u64 (x14 : Nat), .string x15, .int .u64 (y0 : Nat), .int .i64 y1, .slice a2 m2 k2, .slice a3 m3 k3, .int .i64 y4, .int .u64 (y5 : Nat), .int .i64 x17] : Array Value).toList = [.int .i64 x0, .int .i64 x1, .int .i64 x2, .int .u64 (x3 : Nat), .int .u64 (x4 : Nat), .int .u64 (x5 : Nat), .slice a6 m6 k6, .int .u64 (x7 : Nat), .int .u64 (x8 : Nat), .bool x9, .int .i64 x10, .slice aD mD kD, .bool x12, .int .u64 (x13 : Nat), .int .u64 (x14 : Nat), .string x15, .int .u64 (y0 : Nat), .int .i64 y1, .slice a2 m2 k2, .slice a3 m3 k3, .int .i64 y4, .int .u64 (y5 : Nat), .int .i64 x17] from rfl]
  generalize ((w1.alloc (.cells #[.int .i64 0, .int .i64 0, .int .i64 0, .int .u64 0, .int .u64 0, .int .u64 0, .slice none 0 0, .int .u64 0, .int .u64 0, .bool false, .int .i64 0, .slice none 0 0, .bool false, .int .u64 0, .int .u64 0, .string ⟨#[]⟩, .int .u64 0, .int .i64 0, .slice none 0 0, .slice none 0 0, .int .i64 0, .int .u64 0, .int .i64 0] 33)).setCells w1.heap.size 0 [.int .i64 x0, .int .i64 x1, .int .i64 x2, .int .u64 (x3 : Nat), .int .u64 (x4 : Nat), .int .u64 (x5 : Nat), .slice a6 m6 k6, .int .u64 (x7 : Nat), .int .u64 (x8 : Nat), .bool x9, .int .i64 x10, .slice aD mD kD, .bool x12, .int .u64 (x13 : Nat), .int .u64 (x14 : Nat), .string x15, .int .u64 (y0 : Nat), .int .i64 y1, .slice a2 m2 k2, .slice a3 m3 k3, .int .i64 y4, .int .u64 (y5 : Nat), .int .i64 x17]) = W2 at *
  have hA := hide (unhide R1)
  obtain ⟨-, -, -, -, -, at1, b3, pl3, -, g1, g2, -, g3⟩ := unhide R1
  have E1 := hide g3
  clear g3
  have hl3 := z1
  go_upto_region 3 with fail
  go_wp2_with fail
  refine (rest_err (w.heap.size + 1) c l _ (unhide R1)).mono ?_
  rintro e w2 ⟨q0, q1, q2, n2, rfl, rfl, hq⟩
  have g1' : (W2.drewN n2).cell? ⟨w.heap.size + 1, 1, none⟩ = some (.int .i64 ((at1 : Nat) : Int)) := g1
  have g2' : (W2.drewN n2).cell? ⟨w.heap.size + 1, 2, none⟩ = some (ev b3) := g2
  have R2 := hide ((unhide R1).drewN n2)
  have E2 : Hid (ErrAt (W2.drewN n2) b3 pl3 (c : Int)) := (unhide E1).below (below_drewN (Below.refl _ _) n2) (unhide E1).lt
  have T2 := hide (there_drewN (unhide T1) n2)
  have C2 : Hid ((W2.drewN n2).cell? ⟨w.heap.size, 1, none⟩ = some (.int .i64 0)) := unhide C1
  have B2 := hide (below_drewN (unhide B1) n2)
  have hz3 : w1.heap.size < (W2.drewN n2).heap.size := hz2
  clear R1 E1 T1 C1 B1 hA g1 g2
  generalize W2.drewN n2 = W3 at *
  by_cases h0 : 0 < q1
  · have h0' : (0 : Int) < (q1 : Int) := by omega
    have hne : ¬ w.heap.size + 1 = W3.heap.size := by omega
    have RF := hide (rfail_err (w.heap.size + 1) c W3.heap.size l _ ((unhide R2).alloc (.cells #[.int .i64 (at1 : Nat), .iface 25 (.int .i64 20)] 124)))
    have g2'' : (W3.alloc (.cells #[.int .i64 (at1 : Nat), .iface 25 (.int .i64 20)] 124)).cell? ⟨w.heap.size + 1, 2, none⟩ = some (ev b3) := (World.cell?_alloc_lt _ _ ⟨w.heap.size + 1, 2, none⟩ (by show w.heap.size + 1 < _; omega)).trans g2'
    go_upto_region 6 with (first
      | (go_at_call 34; refine (fault_any 20 _ _).mono ?_; rintro e w5 ⟨rfl, rfl⟩)
      | (go_at_call 33; refine (unhide RF).mono ?_; rintro e w6 ⟨rfl, rfl⟩))
    have R3 := hide ((unhide R2).alloc (.cells #[.int .i64 (at1 : Nat), .iface 25 (.int .i64 20)] 124))
    have E3 := hide ((unhide E2).alloc (.cells #[.int .i64 (at1 : Nat), .iface 25 (.int .i64 20)] 124))
    have T3 := hide (World.there_alloc (unhide T2) (.cells #[.int .i64 (at1 : Nat), .iface 25 (.int .i64 20)] 124))
    have C3 : Hid ((W3.alloc (.cells #[.int .i64 (at1 : Nat), .iface 25 (.int .i64 20)] 124)).cell? ⟨w.heap.size, 1, none⟩ = some (.int .i64 0)) := (World.cell?_alloc_lt _ _ ⟨w.heap.size, 1, none⟩ (by show w.heap.size < _; omega)).trans (unhide C2)
    have B3 := hide ((unhide B2).alloc (by omega) (.cells #[.int .i64 (at1 : Nat), .iface 25 (.int .i64 20)] 124))
    have hz4 : w1.heap.size < (W3.alloc (.cells #[.int .i64 (at1 : Nat), .iface 25 (.int .i64 20)] 124)).heap.size := by simp; omega
    clear R2 E2 T2 C2 B2 RF g1' g2' hne
    generalize W3.alloc (.cells #[.int .i64 (at1 : Nat), .iface 25 (.int .i64 20)] 124) = W4 at *
    go_wp2_with fail
    refine (formless_at b3 c pl3 _ hc (unhide R3).1 (unhide E3)).mono ?_
    rintro e w4 ⟨b4, pl4, rfl, he4, hb4⟩
    have ht4 := there_below (unhide T3) hb4 (by omega)
    have hx4 := (hb4.cell (p := ⟨w.heap.size, 1, none⟩) (by show w.heap.size < _; omega)).trans (unhide C3)
    rename_i K9 hK9
    refine hK9 _ _ ?_
    refine wpList_store_mid rfl 33 (.tmp 2) (.tmp 19) rfl w.heap.size 0 #[.int .i64 0, .int .i64 0, .int .i64 0, .int .u64 0, .int .u64 0, .int .u64 0, .slice none 0 0, .int .u64 0, .int .u64 0, .bool false, .int .i64 0, .slice none 0 0, .bool false, .int .u64 0, .int .u64 0, .string ⟨#[]⟩, .int .u64 0, .int .i64 0, .slice none 0 0, .slice none 0 0, .int .i64 0, .int .u64 0, .int .i64 0] rfl rfl ht4 Tryz.sizeM (by decide +kernel) ?_
    go_wp2
    refine bodyPost_ret (v := .tuple #[.agg #[.int .i64 0, .int .i64 0, .int .i64 0, .int .u64 0, .int .u64 0, .int .u64 0, .slice none 0 0, .int .u64 0, .int .u64 0, .bool false, .int .i64 0, .slice none 0 0, .bool false, .int .u64 0, .int .u64 0, .string ⟨#[]⟩, .int .u64 0, .int .i64 0, .slice none 0 0, .slice none 0 0, .int .i64 0, .int .u64 0, .int .i64 0], ev b4]) ?_ rfl ⟨b4, pl4, rfl, ?_, ?_⟩
    · have e := run_loadVar_mid (P := Tryz.prog) (w4.setCells w.heap.size 0 [.int .i64 0, .int .i64 0, .int .i64 0, .int .u64 0, .int .u64 0, .int .u64 0, .slice none 0 0, .int .u64 0, .int .u64 0, .bool false, .int .i64 0, .slice none 0 0, .bool false, .int .u64 0, .int .u64 0, .string ⟨#[]⟩, .int .u64 0, .int .i64 0, .slice none 0 0, .slice none 0 0, .int .i64 0, .int .u64 0, .int .i64 0]) w.heap.size 0 33 [.int .i64 0, .int .i64 0, .int .i64 0, .int .u64 0, .int .u64 0, .int .u64 0, .slice none 0 0, .int .u64 0, .int .u64 0, .bool false, .int .i64 0, .slice none 0 0, .bool false, .int .u64 0, .int .u64 0, .string ⟨#[]⟩, .int .u64 0, .int .i64 0, .slice none 0 0, .slice none 0 0, .int .i64 0, .int .u64 0, .int .i64 0] _ (World.rangeAt_setCells_same _ w.heap.size 0 [.int .i64 0, .int .i64 0, .int .i64 0, .int .u64 0, .int .u64 0, .int .u64 0, .slice none 0 0, .int .u64 0, .int .u64 0, .bool false, .int .i64 0, .slice none 0 0, .bool false, .int .u64 0, .int .u64 0, .string ⟨#[]⟩, .int .u64 0, .int .i64 0, .slice none 0 0, .slice none 0 0, .int .i64 0, .int .u64 0, .int .i64 0] ht4) Tryz.underlying33 rfl Tryz.sizeM
      rw [results_cell_tmp rfl]
      generalize w4.setCells w.heap.size 0 [.int .i64 0, .int .i64 0, .int .i64 0, .int .u64 0, .int .u64 0, .int .u64 0, .slice none 0 0, .int .u64 0, .int .u64 0, .bool false, .int .i64 0, .slice none 0 0, .bool false, .int .u64 0, .int .u64 0, .string ⟨#[]⟩, .int .u64 0, .int .i64 0, .slice none 0 0, .slice none 0 0, .int .i64 0, .int .u64 0, .int .i64 0] = WW at e ⊢
      refine (res_addr (b := w.heap.size) ?_).trans ?_
      · rfl
      · rw [e]; rfl
    · exact he4.swap (E := w.heap.size) (fun k hk => over_other _ [.int .i64 0, .int .i64 0, .int .i64 0, .int .u64 0, .int .u64 0, .int .u64 0, .slice none 0 0, .int .u64 0, .int .u64 0, .bool false, .int .i64 0, .slice none 0 0, .bool false, .int .u64 0, .int .u64 0, .string ⟨#[]⟩, .int .u64 0, .int .i64 0, .slice none 0 0, .slice none 0 0, .int .i64 0, .int .u64 0, .int .i64 0] _ 0 k hk) hx4
    · exact Below.over (Nat.le_refl _) [.int .i64 0, .int .i64 0, .int .i64 0, .int .u64 0, .int .u64 0, .int .u64 0, .slice none 0 0, .int .u64 0, .int .u64 0, .bool false, .int .i64 0, .slice none 0 0, .bool false, .int .u64 0, .int .u64 0, .string ⟨#[]⟩, .int .u64 0, .int .i64 0, .slice none 0 0, .slice none 0 0, .int .i64 0, .int .u64 0, .int .i64 0] _ 0 ((unhide B3).trans (hb4.mono (by omega)))
  · have h0' : ¬ (0 : Int) < (q1 : Int) := by omega
    have R3 := R2
    have E3 := E2
    have T3 := T2
    have C3 := C2
    have B3 := B2
    have hz4 := hz3
    clear R2 E2 T2 C2 B2
    go_upto_region 6 with fail
    go_wp2_with fail
    refine (formless_at b3 c pl3 _ hc (unhide R3).1 (unhide E3)).mono ?_
    rintro e w4 ⟨b4, pl4, rfl, he4, hb4⟩
    have ht4 := there_below (unhide T3) hb4 (by omega)
    have hx4 := (hb4.cell (p := ⟨w.heap.size, 1, none⟩) (by show w.heap.size < _; omega)).trans (unhide C3)
    rename_i K9 hK9
    refine hK9 _ _ ?_
    refine wpList_store_mid rfl 33 (.tmp 2) (.tmp 19) rfl w.heap.size 0 #[.int .i64 0, .int .i64 0, .int .i64 0, .int .u64 0, .int .u64 0, .int .u64 0, .slice none 0 0, .int .u64 0, .int .u64 0, .bool false, .int .i64 0, .slice none 0 0, .bool false, .int .u64 0, .int .u64 0, .string ⟨#[]⟩, .int .u64 0, .int .i64 0, .slice none 0 0, .slice none 0 0, .int .i64 0, .int .u64 0, .int .i64 0] rfl rfl ht4 Tryz.sizeM (by decide +kernel) ?_
    go_wp2
    refine bodyPost_ret (v := .tuple #[.agg #[.int .i64 0, .int .i64 0, .int .i64 0, .int .u64 0, .int .u64 0, .int .u64 0, .slice none 0 0, .int .u64 0, .int .u64 0, .bool false, .int .i64 0, .slice none 0 0, .bool false, .int .u64 0, .int .u64 0, .string ⟨#[]⟩, .int .u64 0, .int .i64 0, .slice none 0 0, .slice none 0 0, .int .i64 0, .int .u64 0, .int .i64 0], ev b4]) ?_ rfl ⟨b4, pl4, rfl, ?_, ?_⟩
    · have e := run_loadVar_mid (P := Tryz.prog) (w4.setCells w.heap.size 0 [.int .i64 0, .int .i64 0, .int .i64 0, .int .u64 0, .int .u64 0, .int .u64 0, .slice none 0 0, .int .u64 0, .int .u64 0, .bool false, .int .i64 0, .slice none 0 0, .bool false, .int .u64 0, .int .u64 0, .string ⟨#[]⟩, .int .u64 0, .int .i64 0, .slice none 0 0, .slice none 0 0, .int .i64 0, .int .u64 0, .int .i64 0]) w.heap.size 0 33 [.int .i64 0, .int .i64 0, .int .i64 0, .int .u64 0, .int .u64 0, .int .u64 0, .slice none 0 0, .int .u64 0, .int .u64 0, .bool false, .int .i64 0, .slice none 0 0, .bool false, .int .u64 0, .int .u64 0, .string ⟨#[]⟩, .int .u64 0, .int .i64 0, .slice none 0 0, .slice none 0 0, .int .i64 0, .int .u64 0, .int .i64 0] _ (World.rangeAt_setCells_same _ w.heap.size 0 [.int .i64 0, .int .i64 0, .int .i64 0, .int .u64 0, .int .u64 0, .int .u64 0, .slice none 0 0, .int .u64 0, .int .u64 0, .bool false, .int .i64 0, .slice none 0 0, .bool false, .int .u64 0, .int .u64 0, .string ⟨#[]⟩, .int .u64 0, .int .i64 0, .slice none 0 0, .slice none 0 0, .int .i64 0, .int .u64 0, .int .i64 0] ht4) Tryz.underlying33 rfl Tryz.sizeM
      rw [results_cell_tmp rfl]
      generalize w4.setCells w.heap.size 0 [.int .i64 0, .int .i64 0, .int .i64 0, .int .u64 0, .int .u64 0, .int .u64 0, .slice none 0 0, .int .u64 0, .int .u64 0, .bool false, .int .i64 0, .slice none 0 0, .bool false, .int .u64 0, .int .u64 0, .string ⟨#[]⟩, .int .u64 0, .int .i64 0, .slice none 0 0, .slice none 0 0, .int .i64 0, .int .u64 0, .int .i64 0] = WW at e ⊢
      refine (res_addr (b := w.heap.size) ?_).trans ?_
      · rfl
      · rw [e]; rfl
    · exact he4.swap (E := w.heap.size) (fun k hk => over_other _ [.int .i64 0, .int .i64 0, .int .i64 0, .int .u64 0, .int .u64 0, .int .u64 0, .slice none 0 0, .int .u64 0, .int .u64 0, .bool false, .int .i64 0, .slice none 0 0, .bool false, .int .u64 0, .int .u64 0, .string ⟨#[]⟩, .int .u64 0, .int .i64 0, .slice none 0 0, .slice none 0 0, .int .i64 0, .int .u64 0, .int .i64 0] _ 0 k hk) hx4
    · exact Below.over (Nat.le_refl _) [.int .i64 0, .int .i64 0, .int .i64 0, .int .u64 0, .int .u64 0, .int .u64 0, .slice none 0 0, .int .u64 0, .int .u64 0, .bool false, .int .i64 0, .slice none 0 0, .bool false, .int .u64 0, .int .u64 0, .string ⟨#[]⟩, .int .u64 0, .int .i64 0, .slice none 0 0, .slice none 0 0, .int .i64 0, .int .u64 0, .int .i64 0] _ 0 ((unhide B3).trans (hb4.mono (by omega)))

set_option maxHeartbeats 6400000 in
set_option maxRecDepth 100000 in
theorem msg_left (x0 x1 x2 : Int) (x3 x4 x5 : Nat) (x6 : List GE) (x7 x8 : Nat) (x9 : Bool) (x10 : Int) (x11 : List UInt8) (x12 : Bool) (x13 x14 : Nat) (x15 : ByteArray) (y0 : Nat) (y1 : Int) (y2 : List ByteArray) (y3 : List (List GV)) (y4 : Int) (y5 : Nat) (x17 : Int) (v : Value) (l : List UInt8) (w : World) (hE : ET w) (hv : RBp w w.heap.size v l) (a : Nat) (ha : a < l.length) (hm : rdMsg l (.ok 0) = ((x0, x1, x2, x3, x4, x5, x6, x7, x8, x9, x10, x11, x12, x13, x14, x15, (y0, y1, y2, y3, y4, y5), x17), .ok a)) :
    Calls Tryz.prog 9 #[v] w fun e w' => MsgBad w e w' := by
  obtain ⟨av, kv, rfl⟩ := rb_len hv
  have hb0 : Below w.heap.size w (w.alloc (.cells #[.int .i64 0, .int .i64 0, .int .i64 0, .int .u64 0, .int .u64 0, .int .u64 0, .slice none 0 0, .int .u64 0, .int .u64 0, .bool false, .int .i64 0, .slice none 0 0, .bool false, .int .u64 0, .int .u64 0, .string ⟨#[]⟩, .int .u64 0, .int .i64 0, .slice none 0 0, .slice none 0 0, .int .i64 0, .int .u64 0, .int .i64 0] 33)) := (Below.refl _ _).alloc (Nat.le_refl _) _
  have hR0 := RS.new (w.alloc (.cells #[.int .i64 0, .int .i64 0, .int .i64 0, .int .u64 0, .int .u64 0, .int .u64 0, .slice none 0 0, .int .u64 0, .int .u64 0, .bool false, .int .i64 0, .slice none 0 0, .bool false, .int .u64 0, .int .u64 0, .string ⟨#[]⟩, .int .u64 0, .int .i64 0, .slice none 0 0, .slice none 0 0, .int .i64 0, .int .u64 0, .int .i64 0] 33)) (.slice av l.length kv) l (hE.alloc _) (rb_later hv hb0 (by simp))
  rw [World.size_alloc] at hR0
  have HR := hide (rmsg_all (w.heap.size + 1) x0 x1 x2 x3 x4 x5 x6 x7 x8 x9 x10 x11 x12 x13 x14 x15 y0 y1 y2 y3 y4 y5 x17 l (.ok 0) _ _ hR0 hm)
  have HB := hide (hb0.alloc (by simp) (.cells #[.slice av l.length kv, .int .i64 0, .nilIface] 78))
  have HK := hide ((Blk.new w 33 #[.int .i64 0, .int .i64 0, .int .i64 0, .int .u64 0, .int .u64 0, .int .u64 0, .slice none 0 0, .int .u64 0, .int .u64 0, .bool false, .int .i64 0, .slice none 0 0, .bool false, .int .u64 0, .int .u64 0, .string ⟨#[]⟩, .int .u64 0, .int .i64 0, .slice none 0 0, .slice none 0 0, .int .i64 0, .int .u64 0, .int .i64 0]).alloc (.cells #[.slice av l.length kv, .int .i64 0, .nilIface] 78))
  clear hE hv hm hR0 hb0
  go_enter Tryz.func9, Tryz.ntmps9
  go_wp2_with fail
  refine (unhide HR).mono ?_
  rintro e w1 ⟨a6, m6, k6, aD, mD, kD, a2, m2, k2, a3, m3, k3, rfl, r1, f1, -⟩
  clear HR
  have z1 := r1.lt
  have N1 := hide (Blk.new w1 33 #[.int .i64 0, .int .i64 0, .int .i64 0, .int .u64 0, .int .u64 0, .int .u64 0, .slice none 0 0, .int .u64 0, .int .u64 0, .bool false, .int .i64 0, .slice none 0 0, .bool false, .int .u64 0, .int .u64 0, .string ⟨#[]⟩, .int .u64 0, .int .i64 0, .slice none 0 0, .slice none 0 0, .int .i64 0, .int .u64 0, .int .i64 0])
  have R1 := hide (RS.swap (w' := ((w1.alloc (.cells #[.int .i64 0, .int .i64 0, .int .i64 0, .int .u64 0, .int .u64 0, .int .u64 0, .slice none 0 0, .int .u64 0, .int .u64 0, .bool false, .int .i64 0, .slice none 0 0, .bool false, .int .u64 0, .int .u64 0, .string ⟨#[]⟩, .int .u64 0, .int .i64 0, .slice none 0 0, .slice none 0 0, .int .i64 0, .int .u64 0, .int .i64 0] 33)).setCells w1.heap.size 0 [.int .i64 x0, .int .i64 x1, .int .i64 x2, .int .u64 (x3 : Nat), .int .u64 (x4 : Nat), .int .u64 (x5 : Nat), .slice a6 m6 k6, .int .u64 (x7 : Nat), .int .u64 (x8 : Nat), .bool x9, .int .i64 x10, .slice aD mD kD, .bool x12, .int .u64 (x13 : Nat), .int .u64 (x14 : Nat), .string x15, .int .u64 (y0 : Nat), .int .i64 y1, .slice a2 m2 k2, .slice a3 m3 k3, .int .i64 y4, .int .u64 (y5 : Nat), .int .i64 x17])) (E := w1.heap.size) (r1.alloc (.cells #[.int .i64 0, .int .i64 0, .int .i64 0, .int .u64 0, .int .u64 0, .int .u64 0, .slice none 0 0, .int .u64 0, .int .u64 0, .bool false, .int .i64 0, .slice none 0 0, .bool false, .int .u64 0, .int .u64 0, .string ⟨#[]⟩, .int .u64 0, .int .i64 0, .slice none 0 0, .slice none 0 0, .int .i64 0, .int .u64 0, .int .i64 0] 33)) (fun k hk => over_other _ [.int .i64 x0, .int .i64 x1, .int .i64 x2, .int .u64 (x3 : Nat), .int .u64 (x4 : Nat), .int .u64 (x5 : Nat), .slice a6 m6 k6, .int .u64 (x7 : Nat), .int .u64 (x8 : Nat), .bool x9, .int .i64 x10, .slice aD mD kD, .bool x12, .int .u64 (x13 : Nat), .int .u64 (x14 : Nat), .string x15, .int .u64 (y0 : Nat), .int .i64 y1, .slice a2 m2 k2, .slice a3 m3 k3, .int .i64 y4, .int .u64 (y5 : Nat), .int .i64 x17] _ 0 k hk) z1 ((unhide N1).cell 1 _ rfl))
  have F1 := hide f1
  have K1 := hide ((unhide HK).fq f1 (by omega))
  have hs1 := f1.1.size
  simp at hs1
  have T1 := hide (show ((w1.alloc (.cells #[.int .i64 0, .int .i64 0, .int .i64 0, .int .u64 0, .int .u64 0, .int .u64 0, .slice none 0 0, .int .u64 0, .int .u64 0, .bool false, .int .i64 0, .slice none 0 0, .bool false, .int .u64 0, .int .u64 0, .string ⟨#[]⟩, .int .u64 0, .int .i64 0, .slice none 0 0, .slice none 0 0, .int .i64 0, .int .u64 0, .int .i64 0] 33)).setCells w1.heap.size 0 [.int .i64 x0, .int .i64 x1, .int .i64 x2, .int .u64 (x3 : Nat), .int .u64 (x4 : Nat), .int .u64 (x5 : Nat), .slice a6 m6 k6, .int .u64 (x7 : Nat), .int .u64 (x8 : Nat), .bool x9, .int .i64 x10, .slice aD mD kD, .bool x12, .int .u64 (x13 : Nat), .int .u64 (x14 : Nat), .string x15, .int .u64 (y0 : Nat), .int .i64 y1, .slice a2 m2 k2, .slice a3 m3 k3, .int .i64 y4, .int .u64 (y5 : Nat), .int .i64 x17]).there w.heap.size 0 23 from World.there_setCells (((unhide K1).alloc _).there rfl) _ _ _)
  have C1 : Hid (((w1.alloc (.cells #[.int .i64 0, .int .i64 0, .int .i64 0, .int .u64 0, .int .u64 0, .int .u64 0, .slice none 0 0, .int .u64 0, .int .u64 0, .bool false, .int .i64 0, .slice none 0 0, .bool false, .int .u64 0, .int .u64 0, .string ⟨#[]⟩, .int .u64 0, .int .i64 0, .slice none 0 0, .slice none 0 0, .int .i64 0, .int .u64 0, .int .i64 0] 33)).setCells w1.heap.size 0 [.int .i64 x0, .int .i64 x1, .int .i64 x2, .int .u64 (x3 : Nat), .int .u64 (x4 : Nat), .int .u64 (x5 : Nat), .slice a6 m6 k6, .int .u64 (x7 : Nat), .int .u64 (x8 : Nat), .bool x9, .int .i64 x10, .slice aD mD kD, .bool x12, .int .u64 (x13 : Nat), .int .u64 (x14 : Nat), .string x15, .int .u64 (y0 : Nat), .int .i64 y1, .slice a2 m2 k2, .slice a3 m3 k3, .int .i64 y4, .int .u64 (y5 : Nat), .int .i64 x17]).cell? ⟨w.heap.size, 1, none⟩ = some (.int .i64 0)) := by
    have := World.cell?_of_block (w := w1.alloc (.cells #[.int .i64 0, .int .i64 0, .int .i64 0, .int .u64 0, .int .u64 0, .int .u64 0, .slice none 0 0, .int .u64 0, .int .u64 0, .bool false, .int .i64 0, .slice none 0 0, .bool false, .int .u64 0, .int .u64 0, .string ⟨#[]⟩, .int .u64 0, .int .i64 0, .slice none 0 0, .slice none 0 0, .int .i64 0, .int .u64 0, .int .i64 0] 33)) (a := ⟨w.heap.size, 1, none⟩) (over_other w1.heap.size [.int .i64 x0, .int .i64 x1, .int .i64 x2, .int .u64 (x3 : Nat), .int .u64 (x4 : Nat), .int .u64 (x5 : Nat), .slice a6 m6 k6, .int .u64 (x7 : Nat), .int .u64 (x8 : Nat), .bool x9, .int .i64 x10, .slice aD mD kD, .bool x12, .int .u64 (x13 : Nat), .int .u64 (x14 : Nat), .string x15, .int .u64 (y0 : Nat), .int .i64 y1, .slice a2 m2 k2, .slice a3 m3 k3, .int .i64 y4, .int .u64 (y5 : Nat), .int .i64 x17] (w1.alloc (.cells #[.int .i64 0, .int .i64 0, .int .i64 0, .int .u64 0, .int .u64 0, .int .u64 0, .slice none 0 0, .int .u64 0, .int .u64 0, .bool false, .int .i64 0, .slice none 0 0, .bool false, .int .u64 0, .int .u64 0, .string ⟨#[]⟩, .int .u64 0, .int .i64 0, .slice none 0 0, .slice none 0 0, .int .i64 0, .int .u64 0, .int .i64 0] 33)) 0 w.heap.size (by omega))
    exact this.trans (((unhide K1).alloc _).cell 1 _ rfl)
  have B1 : Hid (Below w.heap.size w ((w1.alloc (.cells #[.int .i64 0, .int .i64 0, .int .i64 0, .int .u64 0, .int .u64 0, .int .u64 0, .slice none 0 0, .int .u64 0, .int .u64 0, .bool false, .int .i64 0, .slice none 0 0, .bool false, .int .u64 0, .int .u64 0, .string ⟨#[]⟩, .int .u64 0, .int .i64 0, .slice none 0 0, .slice none 0 0, .int .i64 0, .int .u64 0, .int .i64 0] 33)).setCells w1.heap.size 0 [.int .i64 x0, .int .i64 x1, .int .i64 x2, .int .u64 (x3 : Nat), .int .u64 (x4 : Nat), .int .u64 (x5 : Nat), .slice a6 m6 k6, .int .u64 (x7 : Nat), .int .u64 (x8 : Nat), .bool x9, .int .i64 x10, .slice aD mD kD, .bool x12, .int .u64 (x13 : Nat), .int .u64 (x14 : Nat), .string x15, .int .u64 (y0 : Nat), .int .i64 y1, .slice a2 m2 k2, .slice a3 m3 k3, .int .i64 y4, .int .u64 (y5 : Nat), .int .i64 x17])) := Below.over (by omega) [.int .i64 x0, .int .i64 x1, .int .i64 x2, .int .u64 (x3 : Nat), .int .u64 (x4 : Nat), .int .u64 (x5 : Nat), .slice a6 m6 k6, .int .u64 (x7 : Nat), .int .u64 (x8 : Nat), .bool x9, .int .i64 x10, .slice aD mD kD, .bool x12, .int .u64 (x13 : Nat), .int .u64 (x14 : Nat), .string x15, .int .u64 (y0 : Nat), .int .i64 y1, .slice a2 m2 k2, .slice a3 m3 k3, .int .i64 y4, .int .u64 (y5 : Nat), .int .i64 x17] _ 0 (((unhide HB).trans ((unhide F1).1.mono (by omega))).alloc (by omega) _)
  have hz2 : w1.heap.size < ((w1.alloc (.cells #[.int .i64 0, .int .i64 0, .int .i64 0, .int .u64 0, .int .u64 0, .int .u64 0, .slice none 0 0, .int .u64 0, .int .u64 0, .bool false, .int .i64 0, .slice none 0 0, .bool false, .int .u64 0, .int .u64 0, .string ⟨#[]⟩, .int .u64 0, .int .i64 0, .slice none 0 0, .slice none 0 0, .int .i64 0, .int .u64 0, .int .i64 0] 33)).setCells w1.heap.size 0 [.int .i64 x0, .int .i64 x1, .int .i64 x2, .int .u64 (x3 : Nat), .int .u64 (x4 : Nat), .int .u64 (x5 : Nat), .slice a6 m6 k6, .int .u64 (x7 : Nat), .int .u64 (x8 : Nat), .bool x9, .int .i64 x10, .slice aD mD kD, .bool x12, .int .u64 (x13 : Nat), .int .u64 (x14 : Nat), .string x15, .int .u64 (y0 : Nat), .int .i64 y1, .slice a2 m2 k2, .slice a3 m3 k3, .int .i64 y4, .int .u64 (y5 : Nat), .int .i64 x17]).heap.size := by
    rw [show ((w1.alloc (.cells #[.int .i64 0, .int .i64 0, .int .i64 0, .int .u64 0, .int .u64 0, .int .u64 0, .slice none 0 0, .int .u64 0, .int .u64 0, .bool false, .int .i64 0, .slice none 0 0, .bool false, .int .u64 0, .int .u64 0, .string ⟨#[]⟩, .int .u64 0, .int .i64 0, .slice none 0 0, .slice none 0 0, .int .i64 0, .int .u64 0, .int .i64 0] 33)).setCells w1.heap.size 0 [.int .i64 x0, .int .i64 x1, .int .i64 x2, .int .u64 (x3 : Nat), .int .u64 (x4 : Nat), .int .u64 (x5 : Nat), .slice a6 m6 k6, .int .u64 (x7 : Nat), .int .u64 (x8 : Nat), .bool x9, .int .i64 x10, .slice aD mD kD, .bool x12, .int .u64 (x13 : Nat), .int .u64 (x14 : Nat), .string x15, .int .u64 (y0 : Nat), .int .i64 y1, .slice a2 m2 k2, .slice a3 m3 k3, .int .i64 y4, .int .u64 (y5 : Nat), .int .i64 x17]).heap.size = _ from over_size w1.heap.size [.int .i64 x0, .int .i64 x1, .int .i64 x2, .int .u64 (x3 : Nat), .int .u64 (x4 : Nat), .int .u64 (x5 : Nat), .slice a6 m6 k6, .int .u64 (x7 : Nat), .int .u64 (x8 : Nat), .bool x9, .int .i64 x10, .slice aD mD kD, .bool x12, .int .u64 (x13 : Nat), .int .u64 (x14 : Nat), .string x15, .int .u64 (y0 : Nat), .int .i64 y1, .slice a2 m2 k2, .slice a3 m3 k3, .int .i64 y4, .int .u64 (y5 : Nat), .int .i64 x17] _ 0]; simp
  clear r1 f1 HK HB F1 K1
  rename_i K0 hK0
  refine hK0 _ _ ?_
  refine wpList_alloc_new rfl 33 rfl #[.int .i64 0, .int .i64 0, .int .i64 0, .int .u64 0, .int .u64 0, .int .u64 0, .slice none 0 0, .int .u64 0, .int .u64 0, .bool false, .int .i64 0, .slice none 0 0, .bool false, .int .u64 0, .int .u64 0, .string ⟨#[]⟩, .int .u64 0, .int .i64 0, .slice none 0 0, .slice none 0 0, .int .i64 0, .int .u64 0, .int .i64 0] (zero_of_info Tryz.zeroM).1 ?_
  refine wpList_store_mid rfl 33 (.tmp 5) (.tmp 8) rfl w1.heap.size 0 #[.int .i64 x0, .int .i64 x1, .int .i64 x2, .int .u64 (x3 : Nat), .int .u64 (x4 : Nat), .int .u64 (x5 : Nat), .slice a6 m6 k6, .int .u64 (x7 : Nat), .int .u64 (x8 : Nat), .bool x9, .int .i64 x10, .slice aD mD kD, .bool x12, .int .u64 (x13 : Nat), .int .u64 (x14 : Nat), .string x15, .int .u64 (y0 : Nat), .int .i64 y1, .slice a2 m2 k2, .slice a3 m3 k3, .int .i64 y4, .int .u64 (y5 : Nat), .int .i64 x17] rfl rfl ((unhide N1).there rfl) Tryz.sizeM (all_oneCell_toArray (by intro v hv; simp at hv; rcases hv with rfl | rfl | rfl | rfl | rfl | rfl | rfl | rfl | rfl | rfl | rfl | rfl | rfl | rfl | rfl | rfl | rfl | rfl | rfl | rfl | rfl | rfl | rfl <;> rfl)) ?_
  clear N1
  rw [show (#[.int .i64 x0, .int .i64 x1, .int .i64 x2, .int .u64 (x3 : Nat), .int .u64 (x4 : Nat), .int .u64 (x5 : Nat), .slice a6 m6 k6, .int .u64 (x7 : Nat), .int .u64 (x8 : Nat), .bool x9, .int .i64 x10, .slice aD mD kD, .bool x12, .int .u64 (x13 : Nat), .int .u64 (x14 : Nat), .string x15, .int .u64 (y0 : Nat), .int .i64 y1, .slice a2 m2 k2, .slice a3 m3 k3, .int .i64 y4, .int .u64 (y5 : Nat), .int .i64 x17] : Array Value).toList = [.int .i64 x0, .int .i64 x1, .int .i64 x2, .int .u64 (x3 : Nat), .int .u64 (x4 : Nat), .int .u64 (x5 : Nat), .slice a6 m6 k6, .int .u64 (x7 : Nat), .int .u64 (x8 : Nat), .bool x9, .int .i64 x10, .slice aD mD kD, .bool x12, .int .u64 (x13 : Nat), .int .u64 (x14 : Nat), .string x15, .int .u64 (y0 : Nat), .int .i64 y1, .slice a2 m2 k2, .slice a3 m3 k3, .int .i64 y4, .int .u64 (y5 : Nat), .int .i64 x17] from rfl]
  generalize ((w1.alloc (.cells #[.int .i64 0, .int .i64 0, .int .i64 0, .int .u64 0, .int .u64 0, .int .u64 0, .slice none 0 0, .int .u64 0, .int .u64 0, .bool false, .int .i64 0, .slice none 0 0, .bool false, .int .u64 0, .int .u64 0, .string ⟨#[]⟩, .int .u64 0, .int .i64 0, .slice none 0 0, .slice none 0 0, .int .i64 0, .int .u64 0, .int .i64 0] 33)).setCells w1.heap.size 0 [.int .i64 x0, .int .i64 x1, .int .i64 x2, .int .u64 (x3 : Nat), .int .u64 (x4 : Nat), .int .u64 (x5 : Nat), .slice a6 m6 k6, .int .u64 (x7 : Nat), .int .u64 (x8 : Nat), .bool x9, .int .i64 x10, .slice aD mD kD, .bool x12, .int .u64 (x13 : Nat), .int .u64 (x14 : Nat), .string x15, .int .u64 (y0 : Nat), .int .i64 y1, .slice a2 m2 k2, .slice a3 m3 k3, .int .i64 y4, .int .u64 (y5 : Nat), .int .i64 x17]) = W2 at *
  have hl3 := z1
  have hla : a ≤ l.length := Nat.le_of_lt ha
  obtain ⟨g1, g2, -⟩ := (unhide R1).cells_ok
  go_upto_region 3 with fail
  go_wp2_with fail
  refine (rest_rs (w.heap.size + 1) a l _ (unhide R1)).mono ?_
  rintro e w2 ⟨v2, n2, rfl, rfl, hv2⟩
  obtain ⟨q0, q2, hq⟩ := rb_len hv2
  subst hq
  have hq1 : 0 < (l.drop a).length := by simp; omega
  have hq2 := hv2.1
  generalize (l.drop a).length = q1 at *
  clear hv2
  have g1' : (W2.drewN n2).cell? ⟨w.heap.size + 1, 1, none⟩ = some (.int .i64 ((a : Nat) : Int)) := g1
  have R2 := hide ((unhide R1).drewN n2)
  have T2 := hide (there_drewN (unhide T1) n2)
  have C2 : Hid ((W2.drewN n2).cell? ⟨w.heap.size, 1, none⟩ = some (.int .i64 0)) := unhide C1
  have B2 := hide (below_drewN (unhide B1) n2)
  have hz3 : w1.heap.size < (W2.drewN n2).heap.size := hz2
  clear R1 T1 C1 B1 g1 g2
  generalize W2.drewN n2 = W3 at *
  have h0' : (0 : Int) < (q1 : Int) := by omega
  have RF := hide (rfail_ok (w.heap.size + 1) a W3.heap.size 20 (a : Int) l _ ((unhide R2).alloc (.cells #[.int .i64 (a : Nat), .iface 25 (.int .i64 20)] 124)) (by omega) (ErrAt.new W3 _ 20))
  go_upto_region 4 with fail
  go_wp2_with (first | (go_at_call 34; refine (fault_any 20 _ _).mono ?_; rintro e w5 ⟨rfl, rfl⟩))
  refine (unhide RF).mono ?_
  rintro e w6 ⟨rfl, r6, f6⟩
  have hf6 := f6.1.size
  simp at hf6
  have T3 := hide (there_below (World.there_alloc (unhide T2) (.cells #[.int .i64 (a : Nat), .iface 25 (.int .i64 20)] 124)) f6.1 (by omega))
  have C3 : Hid (w6.cell? ⟨w.heap.size, 1, none⟩ = some (.int .i64 0)) := (f6.1.cell (p := ⟨w.heap.size, 1, none⟩) (by show w.heap.size < _; omega)).trans ((World.cell?_alloc_lt _ _ ⟨w.heap.size, 1, none⟩ (by show w.heap.size < _; omega)).trans (unhide C2))
  have B3 := hide (((unhide B2).alloc (by omega) (.cells #[.int .i64 (a : Nat), .iface 25 (.int .i64 20)] 124)).trans (f6.1.mono (by omega)))
  have hz4 : w1.heap.size < w6.heap.size := by omega
  have R3 := hide r6
  obtain ⟨-, -, -, -, -, at1, b3, pl3, -, -, g2', -, g3⟩ := r6
  have E3 := hide g3
  clear R2 T2 C2 B2 RF g1' f6 g3
  rename_i K5 hK5
  refine hK5 _ _ ?_
  go_upto_region 6 with fail
  go_wp2_with fail
  refine (formless_at b3 20 pl3 _ (.inl rfl) (unhide R3).1 (unhide E3)).mono ?_
  rintro e w4 ⟨b4, pl4, rfl, he4, hb4⟩
  have ht4 := there_below (unhide T3) hb4 (by omega)
  have hx4 := (hb4.cell (p := ⟨w.heap.size, 1, none⟩) (by show w.heap.size < _; omega)).trans (unhide C3)
  rename_i K9 hK9
  refine hK9 _ _ ?_
  refine wpList_store_mid rfl 33 (.tmp 2) (.tmp 19) rfl w.heap.size 0 #[.int .i64 0, .int .i64 0, .int .i64 0, .int .u64 0, .int .u64 0, .int .u64 0, .slice none 0 0, .int .u64 0, .int .u64 0, .bool false, .int .i64 0, .slice none 0 0, .bool false, .int .u64 0, .int .u64 0, .string ⟨#[]⟩, .int .u64 0, .int .i64 0, .slice none 0 0, .slice none 0 0, .int .i64 0, .int .u64 0, .int .i64 0] rfl rfl ht4 Tryz.sizeM (by decide +kernel) ?_
  go_wp2
  refine bodyPost_ret (v := .tuple #[.agg #[.int .i64 0, .int .i64 0, .int .i64 0, .int .u64 0, .int .u64 0, .int .u64 0, .slice none 0 0, .int .u64 0, .int .u64 0, .bool false, .int .i64 0, .slice none 0 0, .bool false, .int .u64 0, .int .u64 0, .string ⟨#[]⟩, .int .u64 0, .int .i64 0, .slice none 0 0, .slice none 0 0, .int .i64 0, .int .u64 0, .int .i64 0], ev b4]) ?_ rfl ⟨b4, pl4, rfl, ?_, ?_⟩
  · have e := run_loadVar_mid (P := Tryz.prog) (w4.setCells w.heap.size 0 [.int .i64 0, .int .i64 0, .int .i64 0, .int .u64 0, .int .u64 0, .int .u64 0, .slice none 0 0, .int .u64 0, .int .u64 0, .bool false, .int .i64 0, .slice none 0 0, .bool false, .int .u64 0, .int .u64 0, .string ⟨#[]⟩, .int .u64 0, .int .i64 0, .slice none 0 0, .slice none 0 0, .int .i64 0, .int .u64 0, .int .i64 0]) w.heap.size 0 33 [.int .i64 0, .int .i64 0, .int .i64 0, .int .u64 0, .int .u64 0, .int .u64 0, .slice none 0 0, .int .u64 0, .int .u64 0, .bool false, .int .i64 0, .slice none 0 0, .bool false, .int .u64 0, .int .u64 0, .string ⟨#[]⟩, .int .u64 0, .int .i64 0, .slice none 0 0, .slice none 0 0, .int .i64 0, .int .u64 0, .int .i64 0] _ (World.rangeAt_setCells_same _ w.heap.size 0 [.int .i64 0, .int .i64 0, .int .i64 0, .int .u64 0, .int .u64 0, .int .u64 0, .slice none 0 0, .int .u64 0, .int .u64 0, .bool false, .int .i64 0, .slice none 0 0, .bool false, .int .u64 0, .int .u64 0, .string ⟨#[]⟩, .int .u64 0, .int .i64 0, .slice none 0 0, .slice none 0 0, .int .i64 0, .int .u64 0, .int .i64 0] ht4) Tryz.underlying33 rfl Tryz.sizeM
    rw [results_cell_tmp rfl]
    generalize w4.setCells w.heap.size 0 [.int .i64 0, .int .i64 0, .int .i64 0, .int .u64 0, .int .u64 0, .int .u64 0, .slice none 0 0, .int .u64 0, .int .u64 0, .bool false, .int .i64 0, .slice none 0 0, .bool false, .int .u64 0, .int .u64 0, .string ⟨#[]⟩, .int .u64 0, .int .i64 0, .slice none 0 0, .slice none 0 0, .int .i64 0, .int .u64 0, .int .i64 0] = WW at e ⊢
    refine (res_addr (b := w.heap.size) ?_).trans ?_
    · rfl
    · rw [e]; rfl
  · exact he4.swap (E := w.heap.size) (fun k hk => over_other _ [.int .i64 0, .int .i64 0, .int .i64 0, .int .u64 0, .int .u64 0, .int .u64 0, .slice none 0 0, .int .u64 0, .int .u64 0, .bool false, .int .i64 0, .slice none 0 0, .bool false, .int .u64 0, .int .u64 0, .string ⟨#[]⟩, .int .u64 0, .int .i64 0, .slice none 0 0, .slice none 0 0, .int .i64 0, .int .u64 0, .int .i64 0] _ 0 k hk) hx4
  · exact Below.over (Nat.le_refl _) [.int .i64 0, .int .i64 0, .int .i64 0, .int .u64 0, .int .u64 0, .int .u64 0, .slice none 0 0, .int .u64 0, .int .u64 0, .bool false, .int .i64 0, .slice none 0 0, .bool false, .int .u64 0, .int .u64 0, .string ⟨#[]⟩, .int .u64 0, .int .i64 0, .slice none 0 0, .slice none 0 0, .int .i64 0, .int .u64 0, .int .i64 0] _ 0 ((unhide B3).trans (hb4.mono (by omega)))
end Go.Proofs.YtklclbegmpafpaaGreatDoor
