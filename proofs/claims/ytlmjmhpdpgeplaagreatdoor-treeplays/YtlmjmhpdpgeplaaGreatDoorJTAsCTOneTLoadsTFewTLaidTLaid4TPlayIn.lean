/- errors.As of a chain of wraps for the target *api.Class; the help's Class of a chain. -/
import Derived.Test.YtlmjmhpdpgeplaaGreatDoorJAsTAs2
import Derived.Test.YtlmjmhpdpgeplaaGreatDoorTErr
import Derived.Test.YtlmjmhpdpgeplaaGreatDoorJNumsFaultsUint
import Derived.Test.YtlmjmhpdpgeplaaGreatDoorJTOneMTRdM
import Derived.Test.YtlmjmhpdpgeplaaGreatDoorTLoad
import Derived.Test.YtlmjmhpdpgeplaaGreatDoorTRead
import Derived.Test.YtlmjmhpdpgeplaaGreatDoorRows
import Derived.ProofKit
import Derived.LaidMore
import Derived.LaidHandle
import Derived.LaidLaws
import Derived.OpenShut
import Derived.ShutString
import Derived.ChangeOld
import Derived.Below
import Derived.Stop.Joined
import Derived.Deep.Strs
namespace Go.Proofs.YtlmjmhpdpgeplaaGreatDoor
open Go.RowKit Go.Extern.Stop Go.Stop Go.Extern Go.Lib

theorem Tryz.typeOf_W (v : Value) (w : World) : (ReflectliteType.typeOf #[.iface 110 v]).run Tryz.prog w = .ok (.iface 115 (.agg #[.pointer (some ⟨5, 110, none⟩)])) w := by kernel_rfl
theorem Tryz.notAssignableW (w : World) : (ReflectliteType.relation "AssignableTo" ReflectliteType.assignableTo #[.agg #[.pointer (some ⟨5, 110, none⟩)], .iface 115 (.agg #[.pointer (some ⟨5, 67, none⟩)])]).run Tryz.prog w = .ok (.bool false) w := by kernel_rfl
end Go.Proofs.YtlmjmhpdpgeplaaGreatDoor
/- TreeOne: the same keys put in whatever order, with others put and taken out, have one dump. -/
namespace Go.Proofs.YtlmjmhpdpgeplaaGreatDoor
open Go.RowKit Go.Lib

/-- Numbers that came in. -/
def InK (w : World) (a : Option Addr) (ks : List Nat) : Prop := ∀ i, i < ks.length → ∃ b off, a = some ⟨b, off, none⟩ ∧ b < w.heap.size ∧ w.cell? ⟨b, off + i, none⟩ = some (.int .u16 ((ks.getD i 0 : Nat) : Int)) ∧ ks.getD i 0 < 65536
theorem InK.all {w : World} {a : Option Addr} {ks : List Nat} (h : InK w a ks) : ∀ i ∈ ks, i < 65536 := fun x hx => by
  obtain ⟨i, hi⟩ := List.getElem?_of_mem hx
  obtain ⟨hl, e⟩ := List.getElem?_eq_some_iff.1 hi
  obtain ⟨_, _, _, _, _, h4⟩ := h i hl
  rw [List.getD_eq_getElem?_getD, hi] at h4
  exact h4
theorem br_num (w : World) (j : Nat) : BR (w.alloc (.cells #[.int .u8 ((nb1 j).toNat : Int), .int .u8 ((nb0 j).toNat : Int)] 5)) (.slice (some ⟨w.heap.size, 0, none⟩) 2 2) (kN j) := br_lit w [nb1 j, nb0 j] _ _ 2
theorem br_val (w : World) (j : Nat) : BR (w.alloc (.cells #[.int .u8 ((nb0 j).toNat : Int)] 5)) (.slice (some ⟨w.heap.size, 0, none⟩) 1 1) (vN j) := br_lit w [nb0 j] _ _ 1
/-- Two trees beside one another. -/
def S1 (w W : World) (pa pb : Nat) (Fa Fb : List It) : Prop := Below w.heap.size w W ∧ TT W pa (fun g => g = pb) Fa ∧ TT W pb (fun g => g = pa) Fb ∧ w.heap.size ≤ pa ∧ w.heap.size ≤ pb
section
variable {w W W' : World} {pa pb : Nat} {Fa Fb : List It}
theorem S1.below (h : S1 w W pa pb Fa Fb) (hb : Below W.heap.size W W') : S1 w W' pa pb Fa Fb := ⟨below_tr h.1 hb, h.2.1.below hb, h.2.2.1.below hb, h.2.2.2⟩
theorem S1.putA {kv vv : Value} {x : It} (h : S1 w W pa pb Fa Fb) (hk : BR W kv x.1) (hv : BR W vv x.2) (hn : Fa.length ≤ 1000000) :
    Calls Tryz.prog 10 #[.pointer (some ⟨pa, 0, none⟩), kv, vv] W fun e W' => e = .returned (.bool (!hasL x.1 Fa)) ∧ S1 w W' pa pb (insL x Fa) Fb := by
  obtain ⟨h1, h2, h3, h4, h5⟩ := h
  refine (h2.put hk.txt hv.txt hn).mono ?_
  rintro e W' ⟨rfl, z1, z2⟩
  exact ⟨rfl, z2.below h1 h4 h1.size, z1, h3.other rfl z2, h4, h5⟩
theorem S1.putB {kv vv : Value} {x : It} (h : S1 w W pa pb Fa Fb) (hk : BR W kv x.1) (hv : BR W vv x.2) (hn : Fb.length ≤ 1000000) :
    Calls Tryz.prog 10 #[.pointer (some ⟨pb, 0, none⟩), kv, vv] W fun e W' => e = .returned (.bool (!hasL x.1 Fb)) ∧ S1 w W' pa pb Fa (insL x Fb) := by
  obtain ⟨h1, h2, h3, h4, h5⟩ := h
  refine (h3.put hk.txt hv.txt hn).mono ?_
  rintro e W' ⟨rfl, z1, z2⟩
  exact ⟨rfl, z2.below h1 h5 h1.size, h2.other rfl z2, z1, h4, h5⟩
theorem S1.delB {kv : Value} {key : ByteArray} (h : S1 w W pa pb Fa Fb) (hk : BR W kv key) (hn : Fb.length ≤ 1000000) :
    Calls Tryz.prog 12 #[.pointer (some ⟨pb, 0, none⟩), kv] W fun e W' => e = .returned (.bool (hasL key Fb)) ∧ S1 w W' pa pb Fa (delL key Fb) := by
  obtain ⟨h1, h2, h3, h4, h5⟩ := h
  refine (h3.del hk.txt hn).mono ?_
  rintro e W' ⟨rfl, z1, z2⟩
  exact ⟨rfl, z2.below h1 h5 h1.size, h2.other rfl z2, z1, h4, h5⟩
end
theorem br_own {w : World} {B n : Nat} {v : Value} (l : List UInt8) (h : w.ownsRow B 5 1 v n (Lib.byteCells l)) (hn : n = l.length) : BR w v ⟨l.toArray⟩ := by
  have hsz : (⟨l.toArray⟩ : ByteArray).size = l.length := List.size_toArray
  rcases Nat.eq_zero_or_pos n with h0 | h0
  · obtain ⟨a, k, rfl⟩ := own_sl h
    exact .inl ⟨by rw [hsz, ← hn, h0], a, k, by rw [h0]⟩
  · obtain ⟨g, cap, rfl, _, _, _, hg, hc⟩ := own_row1 h h0
    refine .inr ⟨g, 0, cap, by rw [hsz, hn], hg, fun i hi => ?_⟩
    have hi' : i < l.length := by rw [← hsz]; exact hi
    have := hc i (.int .u8 ((l.getD i 0).toNat : Int)) (by unfold Lib.byteCells; rw [List.getElem?_map, List.getElem?_eq_getElem hi', List.getD_eq_getElem?_getD, List.getElem?_eq_getElem hi']; rfl)
    rw [Go.WideShapes.add_plain] at this
    exact this
theorem bytes_br {w : World} {v v' : Value} {k : ByteArray} (h : BR w v k) (h' : BR w v' k) : Calls Tryz.prog 17 #[v, v'] w fun e w' => e = .returned (.bool true) ∧ w' = w := by
  have c1 := h.conv
  have c2 := h'.conv
  clear h h'
  go_enter Tryz.func17, Tryz.ntmps17
  go_wp2_with fail
  go_ret
  exact ⟨by simp, rfl⟩
/-- Row behind an append to a number's bytes. -/
theorem num_x {w w5 w6 : World} {j : Nat} {v6 : Value} (hw5 : w5 = w.alloc (.cells #[.int .u8 ((nb1 j).toNat : Int), .int .u8 ((nb0 j).toNat : Int)] 5)) (hown5 : w5.ownsRow w.heap.size 5 1 (.slice (some ⟨w.heap.size, 0, none⟩) 2 2) 2 [.int .u8 ((nb1 j).toNat : Int), .int .u8 ((nb0 j).toNat : Int)]) (hown6 : w6.ownsRow w.heap.size 5 1 v6 3 [.int .u8 ((nb1 j).toNat : Int), .int .u8 ((nb0 j).toNat : Int), .int .u8 120]) (hg6 : (w5.alloc (.cells #[.int .u8 120] 5)).grownBy w6 (Value.slice (some ⟨w.heap.size, 0, none⟩) 2 2).ownBlock) : Below w.heap.size w w6 ∧ BR w6 v6 (kX j) := by
  have hb5 : Below w.heap.size w w5 := by rw [hw5]; exact (Below.refl _ _).alloc (Nat.le_refl _) _
  refine ⟨(hb5.alloc hb5.size _).grown hg6 (by have := hb5.size; simp; omega) (own_block_ge hown5), br_own [nb1 j, nb0 j, 120] hown6 rfl⟩
theorem num_own {w : World} (j : Nat) : ∀ W : World, W = w.alloc (.cells #[.int .u8 ((nb1 j).toNat : Int), .int .u8 ((nb0 j).toNat : Int)] 5) → W.ownsRow w.heap.size 5 1 (.slice (some ⟨w.heap.size, 0, none⟩) 2 2) 2 [.int .u8 ((nb1 j).toNat : Int), .int .u8 ((nb0 j).toNat : Int)] := by
  intro W hW
  rw [hW]
  exact ⟨rfl, .inr ⟨w.heap.size, 2, _, rfl, Nat.le_refl _, heap_alloc_new _ _, Nat.le_refl _, by decide, rfl, rfl⟩⟩
end Go.Proofs.YtlmjmhpdpgeplaaGreatDoor
/- TreeLoads: bytes that are loaded and dumped again, or that no dump is. -/
namespace Go.Proofs.YtlmjmhpdpgeplaaGreatDoor
open Go.RowKit Go.Lib

theorem BL.br {w : World} {r : Nat} {v : Value} {l : List UInt8} (h : BL w r v l) : BR w v ⟨l.toArray⟩ := by
  have hsz : (⟨l.toArray⟩ : ByteArray).size = l.length := List.size_toArray
  obtain ⟨rfl, rfl⟩ | ⟨b, off, cap, rfl, h2, h3, h4, h5, h6⟩ := h
  · exact .inl ⟨rfl, none, 0, rfl⟩
  · refine .inr ⟨b, off, cap, by rw [hsz], h5, fun i hi => ?_⟩
    rw [hsz] at hi
    exact h6 i hi
theorem dumpL_leF (F : List It) : (dumpL F).length ≤ (dumpF F).length := by unfold dumpF; rw [List.length_append]; omega
section
variable {w : World} {v : Value} {l : List UInt8}
end
end Go.Proofs.YtlmjmhpdpgeplaaGreatDoor
/- TreePlays' steps; few. -/
namespace Go.Proofs.YtlmjmhpdpgeplaaGreatDoor
open Go.RowKit Go.Lib

/-- A step as it came in: what, a key and a value, each with where its bytes lie. -/
structure PS where
  what : Int
  ka : Option Addr
  kk : Nat
  key : ByteArray
  va : Option Addr
  vk : Nat
  val : ByteArray
abbrev PS.kv (s : PS) : Value := .slice s.ka s.key.size s.kk
abbrev PS.vv (s : PS) : Value := .slice s.va s.val.size s.vk
/-- Bytes that came in: an empty row may lie anywhere. -/
def BZ (w : World) (v : Value) (l : List UInt8) : Prop := BL w w.heap.size v l ∨ (l = [] ∧ ∃ ad c, v = .slice (some ad) 0 c ∧ c ≤ maxLen)
theorem BZ.below {w w' : World} {v : Value} {l : List UInt8} (h : BZ w v l) (hb : Below w.heap.size w w') : BZ w' v l := by
  rcases h with (h | ⟨b, off, cap, rfl, h2, h3, h4, h5, h6⟩) | h
  · exact .inl (.inl h)
  · have := hb.size
    exact .inl (.inr ⟨b, off, cap, rfl, h2, h3, by omega, by omega, fun i hi => (hb.cell (p := ⟨b, _, none⟩) h5).trans (h6 i hi)⟩)
  · exact .inr h
def PS.ok (w : World) (s : PS) : Prop := BZ w s.kv s.key.data.toList ∧ BZ w s.vv s.val.data.toList
def InP (w : World) (a : Option Addr) (ss : List PS) : Prop := ∀ i s, ss[i]? = some s → PS.ok w s ∧ ∃ b off, a = some ⟨b, off, none⟩ ∧ b < w.heap.size ∧ w.cell? ⟨b, off + i * 3, none⟩ = some (.int .i64 s.what) ∧ w.cell? ⟨b, off + i * 3 + 1, none⟩ = some s.kv ∧ w.cell? ⟨b, off + i * 3 + 2, none⟩ = some s.vv
def fewB (ss : List PS) : Bool := decide (ss.length ≤ 250) && ss.all fun s => decide (s.key.size ≤ 100) && decide (s.val.size ≤ 100)
theorem few_no {ss : List PS} {s : PS} (hs : s ∈ ss) (h : 100 < s.key.size ∨ 100 < s.val.size) : fewB ss = false := by
  cases hb : fewB ss with
  | false => rfl
  | true =>
    unfold fewB at hb
    rw [Bool.and_eq_true, List.all_eq_true] at hb
    have := hb.2 s hs
    simp at this
    omega
theorem few_yes {ss : List PS} : fewB ss = true ↔ ss.length ≤ 250 ∧ ∀ s ∈ ss, s.key.size ≤ 100 ∧ s.val.size ≤ 100 := by
  unfold fewB
  rw [Bool.and_eq_true, List.all_eq_true]
  simp
theorem few_len {ss : List PS} (h : ¬ ss.length ≤ 250) : fewB ss = false := by
  unfold fewB
  simp [h]
theorem InP.below {w w' : World} {a : Option Addr} {ss : List PS} (h : InP w a ss) (hb : Below w.heap.size w w') : InP w' a ss := fun i s hs => by
  obtain ⟨⟨k1, k2⟩, b, off, e, h1, h2, h3, h4⟩ := h i s hs
  exact ⟨⟨k1.below hb, k2.below hb⟩, b, off, e, Nat.lt_of_lt_of_le h1 hb.size, (hb.cell (p := ⟨b, _, none⟩) h1).trans h2, (hb.cell (p := ⟨b, _, none⟩) h1).trans h3, (hb.cell (p := ⟨b, _, none⟩) h1).trans h4⟩
/-- What few tells. -/
def FewQ (w : World) (ss : List PS) (e : Ending) (w' : World) : Prop := e = .returned (.bool (fewB ss)) ∧ w = w'
set_option maxHeartbeats 6400000 in
set_option maxRecDepth 100000 in
theorem few_any (a : Option Addr) (ss : List PS) (n c : Nat) (w : World) (hn : n = ss.length) (hin : InP w a ss) (hm : n ≤ maxLen) : Calls Tryz.prog 5 #[.slice a n c] w (FewQ w ss) := by
  have hmi : (n : Int) ≤ 9223372036854775807 := by unfold maxLen at hm; omega
  have HIN := hide (And.intro hn hin)
  clear hin hn
  go_enter Tryz.func5, Tryz.ntmps5
  go_wp2_with fail
  go_loopw [3] (fun s3 wr => ∃ i : Nat, s3 = .int .i64 (i : Int) ∧ w = wr ∧ i ≤ n ∧ Hid (∀ j s, ss[j]? = some s → j < i → s.key.size ≤ 100 ∧ s.val.size ≤ 100)) (fun s3 _ => n - (RowKit.intOf s3).toNat)
  case atStart => exact ⟨0, rfl, rfl, Nat.zero_le _, fun j s _ h => by omega⟩
  case round =>
    obtain ⟨i, rfl, rfl, hil, HD⟩ := hrel
    by_cases hlt : i < n
    · have hlti : (i : Int) < (n : Int) := by omega
      have hi0 : (0 : Int) ≤ (i : Int) := by omega
      have hwi : IntKind.i64.wrap ((i : Int) + 1) = (i : Int) + 1 := by rw [IntKind.wrap_i64] <;> omega
      obtain ⟨s, hs⟩ : ∃ s, ss[i]? = some s := ⟨_, List.getElem?_eq_getElem (by rw [← (unhide HIN).1]; exact hlt)⟩
      obtain ⟨hok, b, off, rfl, hb, c0, c1, c2⟩ := (unhide HIN).2 i s hs
      have HS := hide hs
      obtain ⟨what, ka, kk, key, va, vk, val⟩ := s
      simp only [PS.kv, PS.vv] at c0 c1 c2
      obtain ⟨ks, hks⟩ : ∃ ks, ks = key.size := ⟨_, rfl⟩
      obtain ⟨vs, hvs⟩ : ∃ vs, vs = val.size := ⟨_, rfl⟩
      rw [← hks] at c1
      rw [← hvs] at c2
      have HK := hide (And.intro hks hvs)
      clear hok hs hks hvs hb c0
      by_cases h1 : 100 < ks
      · have h1i : (100 : Int) < (ks : Int) := by omega
        have HE : Hid (fewB ss = false) := few_no (List.mem_of_getElem? (unhide HS)) (.inl (by show 100 < key.size; rw [← (unhide HK).1]; exact h1))
        clear HK HS HD h1
        go_wp2_with fail
        go_ret
        exact ⟨by rw [unhide HE]; rfl, rfl⟩
      · have h1i : ¬ ((100 : Int) < (ks : Int)) := by omega
        by_cases h2 : 100 < vs
        · have h2i : (100 : Int) < (vs : Int) := by omega
          have HE : Hid (fewB ss = false) := few_no (List.mem_of_getElem? (unhide HS)) (.inr (by show 100 < val.size; rw [← (unhide HK).2]; exact h2))
          clear HK HS HD h1 h2
          go_wp2_with fail
          go_ret
          exact ⟨by rw [unhide HE]; rfl, rfl⟩
        · have h2i : ¬ ((100 : Int) < (vs : Int)) := by omega
          go_wp2_with fail
          go_roundw
          case rel =>
            refine ⟨i + 1, by simp, by first | rfl | trivial, by omega, fun j s hj hji => ?_⟩
            rcases Nat.lt_or_eq_of_le (Nat.le_of_lt_succ hji) with h' | rfl
            · exact unhide HD j s hj h'
            · rw [unhide HS] at hj
              cases hj
              have := unhide HK
              show key.size ≤ 100 ∧ val.size ≤ 100
              omega
          case measure => simp [RowKit.intOf]; omega
    · have hlti : ¬ ((i : Int) < (n : Int)) := by omega
      have HE : Hid (n ≤ 250 → ss.length ≤ 250 ∧ ∀ s ∈ ss, s.key.size ≤ 100 ∧ s.val.size ≤ 100) := fun h => ⟨by rw [← (unhide HIN).1]; exact h, fun s hs => by
        obtain ⟨j, hj⟩ := List.mem_iff_getElem?.1 hs
        exact unhide HD j s hj (by have := (List.getElem?_eq_some_iff.1 hj).1; have := (unhide HIN).1; omega)⟩
      have HNo : Hid (¬ n ≤ 250 → fewB ss = false) := fun h => few_len (by rw [← (unhide HIN).1]; exact h)
      clear HD HIN
      by_cases h2 : n ≤ 250
      · have h2i : (n : Int) ≤ 250 := by omega
        go_wp2_with fail
        go_ret
        exact ⟨by rw [few_yes.2 (unhide HE h2)]; rfl, rfl⟩
      · have h2i : ¬ ((n : Int) ≤ 250) := by omega
        go_wp2_with fail
        go_ret
        exact ⟨by rw [unhide HNo h2]; rfl, rfl⟩
end Go.Proofs.YtlmjmhpdpgeplaaGreatDoor
/- The tree's rows: what they list, and numbers that come in as arguments. -/
namespace Go.Proofs.YtlmjmhpdpgeplaaGreatDoor
open Go.ChangeShapes Go.WideShapes Go.ChangeAt Go.RowKit Go.Lib

abbrev laid3 : List (String × DataW Unit) := [("math/bits.deBruijn32tab", Rows.laid_math_bits_deBruijn32tab), ("math/bits.deBruijn64tab", Rows.laid_math_bits_deBruijn64tab), ("internal/strconv.uint64pow10", Rows.laid_internal_strconv_uint64pow10)]
theorem Tryz.own : ownKnob Tryz.prog.godebug = none := by kernel_rfl
theorem Tryz.laidOut : laidOutB Tryz.prog = true := by kernel_rfl
/-- The door's own heap meets the condition. -/
theorem door_met3 (os : Os) (args : Array Value) : laidMetH Tryz.prog laid3 ((World.doorLaid Tryz.prog 400 os).forCall (fun _ _ => 0) ⟨#[], args, []⟩).memory :=
  laidMetH_of_parts3 (fuel := 8) (laidMet_of_run' 8 (by kernel_rfl) (by kernel_rfl)) (by kernel_rfl) (by kernel_rfl)
end Go.Proofs.YtlmjmhpdpgeplaaGreatDoor
/- TreeLoads' row: what it lists, and bytes that come in as an argument. -/
namespace Go.Proofs.YtlmjmhpdpgeplaaGreatDoor
open Go.ChangeShapes Go.WideShapes Go.ChangeAt Go.RowKit Go.Lib

abbrev laid4 : List (String × DataW Unit) := [("math/bits.deBruijn32tab", Rows.laid_math_bits_deBruijn32tab), ("math/bits.deBruijn64tab", Rows.laid_math_bits_deBruijn64tab), ("internal/strconv.uint64pow10", Rows.laid_internal_strconv_uint64pow10), ("errors.errorType", Rows.laid_errors_errorType)]
theorem Tryz.et : Tryz.prog.globalNamed "errors.errorType" = some 0 := by kernel_rfl
theorem Tryz.rt : (Tryz.prog.cutTypes.find? (·.1 == "internal/reflectlite.rtype")).map (·.2) = some 115 := by kernel_rfl
theorem Tryz.oneRow : ((List.range 192).filter fun t => Tryz.prog.rowNamed t [101, 114, 114, 111, 114]) = [48] := by kernel_rfl
theorem Tryz.size : Tryz.prog.types.size = 192 := by kernel_rfl
theorem handle_of_laid4 {W : World} (h : laidMetH Tryz.prog laid4 W) : ET W := by
  have h' : laidMet Tryz.prog [("math/bits.deBruijn32tab", Rows.laid_math_bits_deBruijn32tab), ("math/bits.deBruijn64tab", Rows.laid_math_bits_deBruijn64tab), ("internal/strconv.uint64pow10", Rows.laid_internal_strconv_uint64pow10)] W ∧ handlesMet Tryz.prog [("errors.errorType", Rows.laid_errors_errorType)] W := h
  obtain ⟨name, u, ty, e1, e2, e3, e4, e5⟩ := h'.2 _ (List.mem_singleton.2 rfl)
  have en : name = [101, 114, 114, 111, 114] := (Option.some.inj e1).symm
  subst en
  obtain rfl := Option.some.inj (Tryz.rt.symm.trans e2)
  have hm : ty ∈ (List.range 192).filter fun t => Tryz.prog.rowNamed t [101, 114, 114, 111, 114] := List.mem_filter.2 ⟨List.mem_range.2 (by rw [← Tryz.size]; exact e3), e4⟩
  rw [Tryz.oneRow] at hm
  obtain rfl := List.mem_singleton.1 hm
  have hh : typeHandle Tryz.prog 48 = .pointer (some ⟨5, 48, none⟩) := by kernel_rfl
  rw [hh] at e5
  unfold ET
  simpa using World.var?_cell Tryz.et e5 0
/-- The door's own heap meets the condition. -/
theorem door_met4 (os : Os) (args : Array Value) : laidMetH Tryz.prog laid4 ((World.doorLaid Tryz.prog 400 os).forCall (fun _ _ => 0) ⟨#[], args, []⟩).memory :=
  laidMetH_of_parts3 (fuel := 8) (laidMet_of_run' 8 (by kernel_rfl) (by kernel_rfl)) (by kernel_rfl) (by kernel_rfl)
set_option maxRecDepth 100000 in
theorem addr_b8 {W : World} {base : Nat} {a : Addr} {len cap : Nat} (h : Value.okWide Tryz.prog W .any base 30 (.slice (some a) len cap)) : a.spot = none ∧ a.block < W.heap.size := by
  simp only [Value.okWide, Tryz.underlying30, Cell.okWide, Cell.ok] at h
  obtain ⟨_, _, _, h2, row, cells, h3, _⟩ := h
  refine ⟨h2, ?_⟩
  rcases Nat.lt_or_ge a.block W.heap.size with h' | h'
  · exact h'
  · simp [World.shape?, Array.getElem?_eq_none h'] at h3
set_option maxRecDepth 100000 in
theorem b8_in {H : Type} {enc : TypeId × Value → H} {W : World} {base b0 : Nat} {hd : Bool} {a : Option Addr} {len cap : Nat} {d : DataW H} {ps : List MemPlace}
    (hv : Value.okWide Tryz.prog W .any base 30 (.slice a len cap)) (hT : DataW.Trod enc Tryz.prog W b0 (fun _ => true) hd 30 (.slice a len cap) d ps) :
    ∃ l : List UInt8, BL W W.heap.size (.slice a len cap) l := by
  obtain ⟨fuel, hf⟩ := hT
  rcases open_ints Tryz.underlying30 Tryz.underlying5 (by kernel_rfl) hf with ⟨hcs, _⟩ | ⟨x, l, c, zs, hcs, _, hl, hm, hz, _, hcell, hwz⟩
  · simp [Value.cells] at hcs
    obtain ⟨rfl, rfl, rfl⟩ := hcs
    exact ⟨[], .inl ⟨rfl, rfl⟩⟩
  · simp [Value.cells] at hcs
    obtain ⟨rfl, rfl, rfl⟩ := hcs
    obtain ⟨hs, hb⟩ := addr_b8 hv
    obtain ⟨b, off, spot⟩ := x
    simp only at hs hb
    subst hs
    have hzl : zs.length = cap := by simpa using hz
    have hlen : ((zs.take len).map fun z => z.toNat.toUInt8).length = len := by simp; omega
    refine ⟨(zs.take len).map fun z => z.toNat.toUInt8, .inr ⟨b, off, cap, by rw [hlen], by omega, hm, by omega, hb, fun i hi => ?_⟩⟩
    have hi' : i < zs.length := by omega
    have hil : i < len := by omega
    have h1 := hcell i hi'
    rw [Go.WideShapes.add_plain] at h1
    rw [h1]
    have hw := hwz zs[i] (List.getElem_mem hi')
    have hbd := bounds_u8 hw
    have e : ((zs.take len).map fun z => z.toNat.toUInt8).getD i 0 = zs[i].toNat.toUInt8 := by
      simp [List.getD_eq_getElem?_getD, hil, hi']
    have e2 : zs.getD i 0 = zs[i] := by simp [hi']
    have e3 : zs[i].toNat.toUInt8.toNat = zs[i].toNat := by
      show zs[i].toNat % 256 = _
      omega
    rw [e, e2, e3]
    congr 2
    omega
end Go.Proofs.YtlmjmhpdpgeplaaGreatDoor
/- TreePlays' argument: a row of steps that comes in. -/
namespace Go.Proofs.YtlmjmhpdpgeplaaGreatDoor
open Go.ChangeShapes Go.WideShapes Go.ChangeAt Go.RowKit Go.Lib

theorem Tryz.cellsInt7 : Tryz.prog.cellsOf 3 = 1 := by kernel_rfl
theorem Tryz.cellsBy7 : Tryz.prog.cellsOf 30 = 1 := by kernel_rfl
theorem Tryz.cellsSt7 : Tryz.prog.cellsOf 32 = 3 := by kernel_rfl
theorem fields7 {α : Type} {xs : List α} {fs : Array Field} {T : Field → Option α} (hlen : xs.length = fs.size) (hf : ∀ (i : Nat) (f : Field), fs[i]? = some f → T f = xs[i]?) (i : Nat) (f : Field) (h : fs[i]? = some f) : ∃ y, T f = some y := by
  have : i < xs.length := by rw [hlen]; exact (Array.getElem?_eq_some_iff.1 h).1
  exact ⟨xs[i], (hf i f h).trans (List.getElem?_eq_getElem this)⟩
theorem list7 {α : Type} {cs : List α} (h : cs.length = 3) : ∃ a b c, cs = [a, b, c] := by
  match cs, h with
  | [a, b, c], _ => exact ⟨a, b, c, rfl⟩
theorem list_of7 {α : Type} (Q : Nat → α → Prop) : ∀ n, (∀ i, i < n → ∃ g, Q i g) → ∃ gs : List α, gs.length = n ∧ ∀ i g, gs[i]? = some g → Q i g := by
  intro n
  induction n with
  | zero => intro _; exact ⟨[], rfl, fun i g h => by simp at h⟩
  | succ n ih =>
    intro h
    obtain ⟨gs, hl, hg⟩ := ih fun i hi => h i (by omega)
    obtain ⟨g, hq⟩ := h n (by omega)
    refine ⟨gs ++ [g], by simp [hl], fun i x hx => ?_⟩
    by_cases hi : i < n
    · rw [List.getElem?_append_left (by omega)] at hx
      exact hg i x hx
    · rw [List.getElem?_append_right (by omega)] at hx
      have : i = n := by
        have := (List.getElem?_eq_some_iff.1 hx).1
        simp at this; omega
      subst this
      simp [hl] at hx
      subst hx; exact hq
section
variable {H : Type} {enc : TypeId × Value → H} {W : World} {base : Nat} {hd : Bool}

set_option maxRecDepth 100000 in
theorem bz_cells {fuel : Nat} {cs : List Value} {x : DataW H × List MemPlace} (h : DataW.trod enc Tryz.prog W base (fun _ => true) hd fuel 30 cs = some x) :
    ∃ (a : Option Addr) (k : Nat) (l : List UInt8), cs = [.slice a l.length k] ∧ BZ W (.slice a l.length k) l := by
  rcases open_ints Tryz.underlying30 Tryz.underlying5 (by kernel_rfl) h with ⟨hcs, _⟩ | ⟨x, len, cap, zs, hcs, _, hl, hm, hz, _, hcell, hwz⟩
  · exact ⟨none, 0, [], hcs, .inl (.inl ⟨rfl, rfl⟩)⟩
  · have hzl : zs.length = cap := by simpa using hz
    cases len with
    | zero => exact ⟨some x, cap, [], hcs, .inr ⟨rfl, x, cap, rfl, hm⟩⟩
    | succ len =>
      have h0 := hcell 0 (by omega)
      have h0' : W.cell? x = some (.int .u8 (zs.getD 0 0)) := by simpa [Addr.add] using h0
      have hspot := World.cell?_spot h0'
      have hblk : x.block < W.heap.size := by
        rcases Nat.lt_or_ge x.block W.heap.size with h' | h'
        · exact h'
        · simp [World.cell?, Array.getElem?_eq_none h'] at h0'
      obtain ⟨b, off, spot⟩ := x
      dsimp only at hspot hblk
      subst hspot
      have hlen : ((zs.take (len + 1)).map fun z => z.toNat.toUInt8).length = len + 1 := by simp; omega
      refine ⟨_, cap, (zs.take (len + 1)).map fun z => z.toNat.toUInt8, by rw [hlen]; exact hcs, .inl (.inr ⟨b, off, cap, rfl, by omega, hm, by omega, hblk, fun i hi => ?_⟩)⟩
      have hi' : i < zs.length := by omega
      have hil : i < len + 1 := by omega
      have h1 := hcell i hi'
      rw [Go.WideShapes.add_plain] at h1
      rw [h1]
      have hw := hwz zs[i] (List.getElem_mem hi')
      have hbd := bounds_u8 hw
      have e : ((zs.take (len + 1)).map fun z => z.toNat.toUInt8).getD i 0 = zs[i].toNat.toUInt8 := by
        simp [List.getD_eq_getElem?_getD, hil, hi']
      have e2 : zs.getD i 0 = zs[i] := by simp [hi']
      have e3 : zs[i].toNat.toUInt8.toNat = zs[i].toNat := by
        show zs[i].toNat % 256 = _
        omega
      rw [e, e2, e3]
      congr 2
      omega
theorem size_of (l : List UInt8) : (⟨l.toArray⟩ : ByteArray).size = l.length := by show l.toArray.size = _; simp
set_option maxRecDepth 100000 in
theorem pstep_cells {fuel : Nat} {cs : List Value} {x : DataW H × List MemPlace} (h : DataW.trod enc Tryz.prog W base (fun _ => true) hd fuel 32 cs = some x) :
    ∃ s : PS, PS.ok W s ∧ cs = [.int .i64 s.what, s.kv, s.vv] := by
  obtain ⟨xs, n, _, _, hl, hlen, hf⟩ := DataW.trod_struct Tryz.underlying32 h
  rw [Tryz.cellsSt7] at hl
  obtain ⟨c0, c1, c2, rfl⟩ := list7 hl
  have g := fields7 hlen hf
  clear h
  obtain ⟨y0, h0⟩ := g 0 _ rfl
  simp [Tryz.cellsInt7] at h0
  obtain ⟨y1, h1⟩ := g 1 _ rfl
  simp [Tryz.cellsBy7] at h1
  obtain ⟨y2, h2⟩ := g 2 _ rfl
  simp [Tryz.cellsBy7] at h2
  clear g hf hlen
  obtain ⟨z0, e0, _, b0⟩ := DataW.trod_int Tryz.underlying3 h0
  obtain ⟨ka, kk, kl, e1, hk⟩ := bz_cells h1
  obtain ⟨va, vk, vl, e2, hv⟩ := bz_cells h2
  simp at e0 e1 e2
  subst e0 e1 e2
  refine ⟨⟨z0, ka, kk, ⟨kl.toArray⟩, va, vk, ⟨vl.toArray⟩⟩, ⟨?_, ?_⟩, ?_⟩
  · show BZ W (.slice ka (⟨kl.toArray⟩ : ByteArray).size kk) kl.toArray.toList
    rw [size_of]
    simpa using hk
  · show BZ W (.slice va (⟨vl.toArray⟩ : ByteArray).size vk) vl.toArray.toList
    rw [size_of]
    simpa using hv
  · show _ = [_, Value.slice ka (⟨kl.toArray⟩ : ByteArray).size kk, Value.slice va (⟨vl.toArray⟩ : ByteArray).size vk]
    rw [size_of, size_of]

set_option maxRecDepth 100000 in
theorem psteps_addr {b0 : Nat} {a : Addr} {len cap : Nat} (h : Value.okWide Tryz.prog W .any b0 22 (.slice (some a) len cap)) : a.spot = none ∧ a.block < W.heap.size := by
  simp only [Value.okWide, Tryz.underlying22, Cell.okWide, Cell.ok] at h
  obtain ⟨_, _, _, h2, row, cells, h3, _⟩ := h
  refine ⟨h2, ?_⟩
  rcases Nat.lt_or_ge a.block W.heap.size with h' | h'
  · exact h'
  · simp [World.shape?, Array.getElem?_eq_none h'] at h3
set_option maxRecDepth 100000 in
theorem psteps_in {b0 : Nat} {a : Option Addr} {len cap : Nat} {d : DataW H} {ps : List MemPlace}
    (hv : Value.okWide Tryz.prog W .any b0 22 (.slice a len cap)) (hT : DataW.Trod enc Tryz.prog W base (fun _ => true) hd 22 (.slice a len cap) d ps) :
    ∃ ss : List PS, len = ss.length ∧ len ≤ maxLen ∧ InP W a ss := by
  obtain ⟨fuel, hf⟩ := hT
  rcases DataW.trod_slice Tryz.underlying22 hf with ⟨hcs, _⟩ | ⟨x, l, c, elems, rest, n, _, hcs, _, hb, hl, hm, hlen, hel, _⟩
  · simp [Value.cells] at hcs
    obtain ⟨rfl, rfl, rfl⟩ := hcs
    exact ⟨[], rfl, Nat.zero_le _, fun i s hi => by simp at hi⟩
  · simp [Value.cells] at hcs
    obtain ⟨rfl, rfl, rfl⟩ := hcs
    obtain ⟨hs, hblk⟩ := psteps_addr hv
    obtain ⟨b, off, spot⟩ := x
    simp only at hs
    subst hs
    rw [Tryz.cellsSt7] at hel
    have each : ∀ i, i < len → ∃ s : PS, PS.ok W s ∧ ∀ j v, [Value.int .i64 s.what, s.kv, s.vv][j]? = some v → W.cell? ⟨b, off + i * 3 + j, none⟩ = some v := by
      intro i hi
      have he := hel i hi
      rw [List.getElem?_eq_getElem (by omega), Option.bind_eq_some_iff] at he
      obtain ⟨cs, hc, ht⟩ := he
      obtain ⟨s, hs, rfl⟩ := pstep_cells ht
      obtain ⟨_, hl6, hcell⟩ := World.cells?_some hc
      rw [Go.WideShapes.add_plain] at hcell
      refine ⟨s, hs, fun j v hj => ?_⟩
      have hjl : j < 3 := (List.getElem?_eq_some_iff.1 hj).1
      have := hcell j hjl
      rw [Go.WideShapes.add_plain] at this
      rw [this, hj]
    obtain ⟨gs, hgl, hgs⟩ := list_of7 _ len each
    refine ⟨gs, hgl.symm, by omega, fun i s hi => ⟨(hgs i s hi).1, b, off, rfl, hblk, (hgs i s hi).2 0 _ rfl, (hgs i s hi).2 1 _ rfl, (hgs i s hi).2 2 _ rfl⟩⟩
end
end Go.Proofs.YtlmjmhpdpgeplaaGreatDoor
