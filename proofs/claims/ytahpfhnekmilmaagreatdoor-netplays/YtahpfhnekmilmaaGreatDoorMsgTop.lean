/- Contract of wire.Msg: what its bytes say, or a fault of class 20. -/
import Derived.Test.YtahpfhnekmilmaaGreatDoorRMsg
import Derived.Test.YtahpfhnekmilmaaGreatDoorWMsg
namespace Go.Proofs.YtahpfhnekmilmaaGreatDoor
open Go.RowKit Go.Lib

/-- A message's slices, of a call's own. -/
def OwnM (w : World) (B : Nat) (vE vD vC vR : Value) (es : List GE) (lb : List UInt8) (cs : List ByteArray) (rs : List (List GV)) : Prop :=
  w.ownsRow B 74 5 vE es.length (geListCells es) ∧ w.ownsRow B 5 1 vD lb.length (byteCells lb) ∧ w.ownsRow B 9 1 vC cs.length (strListCells cs) ∧ OwR w B vR rs

theorem rmsg_all (p : Nat) (x0 x1 x2 : Int) (x3 x4 x5 : Nat) (x6 : List GE) (x7 x8 : Nat) (x9 : Bool) (x10 : Int) (x11 : List UInt8) (x12 : Bool) (x13 x14 : Nat) (x15 : ByteArray) (y0 : Nat) (y1 : Int) (y2 : List ByteArray) (y3 : List (List GV)) (y4 : Int) (y5 : Nat) (x17 : Int) (l : List UInt8) (s s17 : Except Nat Nat) (w : World) (h : RS w p l s) (hm : rdMsg l s = ((x0, x1, x2, x3, x4, x5, x6, x7, x8, x9, x10, x11, x12, x13, x14, x15, (y0, y1, y2, y3, y4, y5), x17), s17)) :
    Calls Tryz.prog 39 #[.pointer (some ⟨p, 0, none⟩)] w fun e w' => ∃ a6 m6 k6 aD mD kD a2 m2 k2 a3 m3 k3, e = .returned (.agg #[.int .i64 x0, .int .i64 x1, .int .i64 x2, .int .u64 (x3 : Nat), .int .u64 (x4 : Nat), .int .u64 (x5 : Nat), .slice a6 m6 k6, .int .u64 (x7 : Nat), .int .u64 (x8 : Nat), .bool x9, .int .i64 x10, .slice aD mD kD, .bool x12, .int .u64 (x13 : Nat), .int .u64 (x14 : Nat), .string x15, .int .u64 (y0 : Nat), .int .i64 y1, .slice a2 m2 k2, .slice a3 m3 k3, .int .i64 y4, .int .u64 (y5 : Nat), .int .i64 x17]) ∧ RS w' p l s17 ∧ Fq p w w' ∧
      ((∃ a, s17 = .ok a) → OwnM w' w.heap.size (.slice a6 m6 k6) (.slice aD mD kD) (.slice a2 m2 k2) (.slice a3 m3 k3) x6 x11 y2 y3) := by
  simp only [rdMsg, rdPair, Prod.mk.injEq] at hm
  obtain ⟨⟨e0, e1, e2, e3, e4, e5, e6, e7, e8, e9, e10, e11, e12, e13, e14, e15, e16, e17⟩, e18⟩ := hm
  refine (rmsg_eq p x0 x1 x2 x3 x4 x5 x6 x7 x8 x9 x10 x11 x12 x13 x14 x15 y0 y1 y2 y3 y4 y5 x17 l s _ _ _ _ _ _ _ _ _ _ _ _ _ _ _ _ _ s17 w h (Prod.ext e0 rfl) (Prod.ext e1 rfl) (Prod.ext e2 rfl) (Prod.ext e3 rfl) (Prod.ext e4 rfl) (Prod.ext e5 rfl) (Prod.ext e6 rfl) (Prod.ext e7 rfl) (Prod.ext e8 rfl) (Prod.ext e9 rfl) (Prod.ext e10 rfl) (Prod.ext e11 rfl) (Prod.ext e12 rfl) (Prod.ext e13 rfl) (Prod.ext e14 rfl) (Prod.ext e15 rfl)
    (Prod.ext (by simpa only [rdRep, rdPair, Prod.mk.injEq] using e16) rfl) (Prod.ext e17 e18)).mono ?_
  rintro e w' ⟨a6, m6, k6, aD, kD, a2, m2, k2, a3, m3, k3, rfl, r1, r2, o6, o11, o2, o3⟩
  refine ⟨a6, m6, k6, aD, x11.length, kD, a2, m2, k2, a3, m3, k3, rfl, r1, r2, fun ⟨a, ha⟩ => ?_⟩
  rw [← e18] at ha
  obtain ⟨b16, h16⟩ := (codec_between (-1) 1000 (by omega) (by omega)).ok_of ha
  obtain ⟨b15, h15⟩ := codec_rep.ok_of h16
  obtain ⟨b14, h14⟩ := (codec_text 2000 (by decide)).ok_of h15
  obtain ⟨b13, h13⟩ := codec_num.ok_of h14
  obtain ⟨b12, h12⟩ := codec_num.ok_of h13
  obtain ⟨b11, h11⟩ := codec_bool.ok_of h12
  obtain ⟨b10, h10⟩ := (codec_data 262144 (by decide)).ok_of h11
  obtain ⟨b9, h9⟩ := (codec_between 0 262144 (by omega) (by omega)).ok_of h10
  obtain ⟨b8, h8⟩ := codec_bool.ok_of h9
  obtain ⟨b7, h7⟩ := codec_num.ok_of h8
  obtain ⟨b6, h6⟩ := codec_num.ok_of h7
  exact ⟨o6 ⟨_, h6⟩, o11, o2 ⟨_, h16⟩, o3 ⟨_, h16⟩⟩

set_option maxHeartbeats 1600000 in
theorem formless_20 (b : Nat) (pl : Int) (w : World) (he : ErrAt w b pl 20) :
    Calls Tryz.prog 43 #[ev b] w fun e w' => ∃ b' pl', e = .returned (ev b') ∧ ErrAt w' b' pl' 20 ∧ Below w.heap.size w w' := by
  have HE := hide he
  have h1 := he.2
  clear he
  go_enter Tryz.func43, Tryz.ntmps43
  go_wp2_with (first | (go_at_call 19; refine (is_placed b 20 22 _ h1).mono ?_; rintro e w2 ⟨rfl, rfl⟩))
  go_ret
  exact ⟨_, _, rfl, unhide HE, Below.refl _ _⟩
set_option maxHeartbeats 1600000 in
theorem formless_22 (b : Nat) (pl : Int) (w : World) (hE : ET w) (he : ErrAt w b pl 22) :
    Calls Tryz.prog 43 #[ev b] w fun e w' => ∃ b' pl', e = .returned (ev b') ∧ ErrAt w' b' pl' 20 ∧ Below w.heap.size w w' := by
  have HP := hide (placeOf_at b pl 22 w hE he)
  have h1 := he.2
  clear he hE
  go_enter Tryz.func43, Tryz.ntmps43
  go_wp2_with (first
    | (go_at_call 19; refine (is_placed b 22 22 _ h1).mono ?_; rintro e w2 ⟨rfl, rfl⟩)
    | (go_at_call 63; refine (unhide HP).mono ?_; rintro e w3 ⟨rfl, hb3⟩)
    | (go_at_call 42; refine (fault_any 20 _ _).mono ?_; rintro e w4 ⟨rfl, rfl⟩))
  go_ret
  have hs := hb3.size
  exact ⟨_, _, rfl, ErrAt.new _ _ _, hb3.alloc hs _⟩
theorem formless_at (b c : Nat) (pl : Int) (w : World) (hc : c = 20 ∨ c = 22) (hE : ET w) (he : ErrAt w b pl (c : Int)) :
    Calls Tryz.prog 43 #[ev b] w fun e w' => ∃ b' pl', e = .returned (ev b') ∧ ErrAt w' b' pl' 20 ∧ Below w.heap.size w w' := by
  rcases hc with rfl | rfl
  · exact formless_20 b pl w he
  · exact formless_22 b pl w hE he
set_option maxHeartbeats 1600000 in
theorem rfail_err (p c : Nat) (b : Nat) (l : List UInt8) (w : World) (h : RS w p l (.error c)) :
    Calls Tryz.prog 41 #[.pointer (some ⟨p, 0, none⟩), ev b] w fun e w' => e = .returned (.tuple #[]) ∧ w' = w := by
  obtain ⟨b2, k2⟩ := h.cells_err
  clear h
  go_enter Tryz.func41, Tryz.ntmps41
  go_wp2
  first | go_end0 | refine bodyPost_ret (results_none rfl _ _ _) rfl ?_
  exact ⟨rfl, rfl⟩
end Go.Proofs.YtahpfhnekmilmaaGreatDoor
