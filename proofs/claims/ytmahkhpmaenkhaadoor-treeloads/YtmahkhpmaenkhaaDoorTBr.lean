/- Slices of bytes that read as a text; []byte of a text. -/
import Derived.Test.YtmahkhpmaenkhaaDoorTPutT
import Derived.Lib.ConvBytes
import Derived.Laws.BytesArg
namespace Go.Proofs.YtmahkhpmaenkhaaDoor
open Go.RowKit Go.Lib

/-- A slice that reads as these bytes. -/
def BR (w : World) (v : Value) (k : ByteArray) : Prop :=
  (k.size = 0 ∧ ∃ a c, v = .slice a 0 c) ∨ ∃ b off cap, v = .slice (some ⟨b, off, none⟩) k.size cap ∧ b < w.heap.size ∧ ∀ i, i < k.size → w.cell? ⟨b, off + i, none⟩ = some (.int .u8 ((k.data.toList.getD i 0).toNat : Int))
theorem BR.keep {w w' : World} {v : Value} {k : ByteArray} (h : BR w v k) (hz : w.heap.size ≤ w'.heap.size) (hk : ∀ g, g < w.heap.size → (∃ off n c, v = .slice (some ⟨g, off, none⟩) n c) → w'.heap[g]? = w.heap[g]?) : BR w' v k := by
  obtain h | ⟨b, off, cap, rfl, h2, h3⟩ := h
  · exact .inl h
  · exact .inr ⟨b, off, cap, rfl, Nat.lt_of_lt_of_le h2 hz, fun i hi => (World.cell?_of_block (hk b h2 ⟨_, _, _, rfl⟩)).trans (h3 i hi)⟩
theorem BR.below {w w' : World} {v : Value} {k : ByteArray} (h : BR w v k) (hb : Below w.heap.size w w') : BR w' v k := h.keep hb.size (fun g hg _ => hb.block g hg)
theorem conv_zero (a : Option Addr) (c : Nat) (w : World) : (convert 27 9 (.slice a 0 c)).run Tryd.prog w = .ok (.string ⟨#[]⟩) w := by
  cases a with
  | none => exact run_convert_bytes_nil w _ _ Tryd.underlying27 Tryd.underlying5 0 c _ Tryd.underlying9
  | some ad => kernel_rfl
theorem text_zero {k : ByteArray} (h : k.size = 0) : k = ⟨#[]⟩ := by
  obtain ⟨d⟩ := k
  have h : d.size = 0 := h
  have : d = #[] := Array.eq_empty_of_size_eq_zero h
  rw [this]
theorem strOfNums_text (k : ByteArray) : strOfNums (k.data.toList.map fun c => (c.toNat : Int)) = k := by
  obtain ⟨d⟩ := k
  unfold strOfNums
  congr 1
  have e : ((fun n : Int => UInt8.ofNat n.toNat) ∘ fun c : UInt8 => (c.toNat : Int)) = id := by funext c; simp
  simp [e]
theorem BR.conv {w : World} {v : Value} {k : ByteArray} (h : BR w v k) : (convert 27 9 v).run Tryd.prog w = .ok (.string k) w := by
  obtain ⟨h0, a, c, rfl⟩ | ⟨b, off, cap, rfl, h2, h3⟩ := h
  · rw [text_zero h0]; exact conv_zero a c w
  · have hl : (k.data.toList.map fun c => (c.toNat : Int)).length = k.size := by rw [List.length_map, Array.length_toList]; rfl
    have h := run_convert_bytes_arg (P := Tryd.prog) w 27 5 Tryd.underlying27 Tryd.underlying5 b off k.size cap (k.data.toList.map fun c => (c.toNat : Int)) hl (fun i hi => by
      rw [h3 i hi]
      have hi' : i < k.data.toList.length := by rw [Array.length_toList]; exact hi
      simp [List.getD, List.getElem?_eq_getElem hi', List.getElem?_map]) 9 Tryd.underlying9
    rw [h, strOfNums_text]
theorem BR.txt {w : World} {v : Value} {k : ByteArray} (h : BR w v k) : Txt w v k := fun _ hb => (h.below hb).conv
theorem conv_below (w : World) (e : TypeId) (s : ByteArray) : Below w.heap.size w (bytesWorld w e s) := ⟨rfl, rfl, rfl, by rw [bytesWorld_size]; omega, fun j hj => bytesWorld_at_old w e s j hj⟩
theorem conv_br (w : World) (e : TypeId) (s : ByteArray) (c : Nat) : BR (bytesWorld w e s) (.slice (some ⟨w.heap.size, 0, none⟩) s.size c) s :=
  .inr ⟨w.heap.size, 0, c, rfl, by rw [bytesWorld_size]; omega, fun i hi => by rw [Nat.zero_add]; exact bytesWorld_cell w e s i hi⟩
theorem conv_run (w : World) (s : ByteArray) : (convert 9 27 (.string s)).run Tryd.prog w = .ok (.slice (some ⟨w.heap.size, 0, none⟩) s.size (grownCap w s.size 0 5)) (bytesWorld w 5 s) :=
  Go.Lib.run_convert_string_bytes w _ _ _ s Tryd.underlying9 Tryd.underlying27 Tryd.underlying5
end Go.Proofs.YtmahkhpmaenkhaaDoor
