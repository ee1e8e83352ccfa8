/- Contracts of the document's own writers of numbers and texts (the statements' reference), and of wire.PutText. -/
import Derived.Test.YtpminalccnhkjaaGreatDoorJUpto2ValsRead3Vals2Vals3Rows2
import Derived.Test.YtpminalccnhkjaaGreatDoorJKnownLenMathLawLengths
import Derived.Laws.AppendOwnNone
namespace Go.Proofs.YtpminalccnhkjaaGreatDoor
open Go.RowKit Go.Lib

theorem cells_more' (done : List UInt8) (y : Nat) :
    byteCells done ++ [Value.int IntKind.u8 ((y : Int) % 128 + 128)] = byteCells (done ++ [(y % 128 + 128).toUInt8]) := by
  rw [byteCells_snoc done (by omega)]
  have e : ((y : Int) % 128 + 128) = ((y % 128 + 128 : Nat) : Int) := by omega
  rw [e]
theorem cells_last' (done : List UInt8) (y : Nat) (h : y < 128) :
    byteCells done ++ [Value.int IntKind.u8 (y : Int)] = byteCells (done ++ [y.toUInt8]) := by
  rw [byteCells_snoc done (by omega)]

/-- The bytes of a text. -/
def textBytes (t : ByteArray) : List UInt8 := uvarint t.size ++ t.data.toList
theorem textBytes_length (t : ByteArray) : (textBytes t).length = (uvarint t.size).length + t.size := by rw [textBytes, List.length_append, bytes_length]

/-- consistoryhelp.Bytes at the same bytes. -/
theorem bytes_same (v v' : Value) (B B' : Nat) (l : List UInt8) (w : World) (h : RBp w B v l) (h' : RBp w B' v' l) :
    Calls Tryz.prog 13 #[v, v'] w fun e w' => e = .returned (.bool true) ∧ w' = w := by
  have c1 := conv_any v B l w h
  have c2 := conv_any v' B' l w h'
  clear h h'
  go_enter Tryz.func13, Tryz.ntmps13
  go_wp2
  go_ret
  exact ⟨rfl, rfl⟩
end Go.Proofs.YtpminalccnhkjaaGreatDoor
/- Contracts of wire.Int and wire.Text. -/
namespace Go.Proofs.YtpminalccnhkjaaGreatDoor
open Go.RowKit Go.Lib

theorem unzig_zigzag {k : Int} (h0 : -9223372036854775808 ≤ k) (h1 : k < 9223372036854775808) : unzig (zigzag k) = k := by
  unfold unzig zigzag
  by_cases h : 0 ≤ k
  · rw [if_pos h, if_pos (by omega)]; omega
  · rw [if_neg h, if_neg (by omega)]; omega

theorem dec_all (l : List UInt8) : (∃ n k, decU l = (n, k, 0, 0) ∧ n < 18446744073709551616 ∧ k ≤ l.length) ∨ (∃ c q, (c = 20 ∨ c = 22) ∧ decU l = (0, 0, c, q)) := by
  rcases dec_cases l 0 0 (by omega) (by simp) with ⟨n, k, e, g1, g2, g3⟩ | ⟨q, e⟩ | ⟨q, e, g⟩
  · exact .inl ⟨n, k, e, g1, by omega⟩
  · exact .inr ⟨20, q, .inl rfl, e⟩
  · exact .inr ⟨22, q, .inr rfl, e⟩

/-- A slice within bytes. -/
theorem rb_mid {w : World} {B b off cap a n : Nat} {l : List UInt8} (hbB : b < B) (hl : a + n ≤ l.length) (hcap : l.length ≤ cap) (hm : cap ≤ maxLen) (hlen : l.length ≤ 1000000000000)
    (hcell : ∀ i, i < l.length → w.cell? ⟨b, off + i, none⟩ = some (.int .u8 ((l.getD i 0).toNat : Int))) : RBp w B (.slice (some ⟨b, off + a, none⟩) (a + n - a) (cap - a)) ((l.drop a).take n) :=
  rb_take hbB (by omega) (by omega) hcap hm hlen hcell

end Go.Proofs.YtpminalccnhkjaaGreatDoor
/- The walk of the statement WireNumbers: it answers true; nothing old turns. -/
namespace Go.Proofs.YtpminalccnhkjaaGreatDoor
open Go.RowKit Go.Lib

/-- 'append(own, bytes...)', whatever slice the bytes are read of. -/
theorem wpList_append_rb {w : World} {ops : Array Oper} {rest : List Oper} {o : Oper} {a : Act} {Q : Exit → Act → World → Prop} (hgd : o.guard = none) (s x : Operand)
    (ho : o.op = .call { callee := .builtin .append, args := #[s, x], argTypes := #[29, 29] })
    (base : Nat) (v : Value) (n : Nat) (xs : List Value) (hs : a.eval s = v) (hown : w.ownsRow base 5 1 v n xs)
    (B : Nat) (xv : Value) (lx : List UInt8) (hx : a.eval x = xv) (hrb : RBp w B xv lx) (hn : n ≤ 1000000000) (hl : lx.length ≤ 1000000000) (hbase : base ≤ w.heap.size)
    (h : ∀ v' w', w'.ownsRow base 5 1 v' (n + lx.length) (xs ++ byteCells lx) → KeepT 5 w w' → Below base w w' → wpList Tryz.prog ops Q rest (a.put o.dst v') w') : wpList Tryz.prog ops Q (o :: rest) a w := by
  obtain ⟨i0, hi, hz0, hz1, hz2⟩ := info_parts Tryz.infoB
  obtain ⟨hlen, ⟨rfl, rfl⟩ | ⟨b, off, cap, hbB, hcap, hm, rfl, hcell⟩⟩ := hrb
  · refine wpList_append_own_none hgd s x 29 ho base 5 i0 1 Tryz.underlying29 hi v n xs hs hown hx ?_
    exact h v w (by simpa [byteCells] using hown) (KeepT.refl _ _) (Below.refl _ _)
  · refine wpList_append_own w hgd s x 29 ho base 5 i0 (.int .u8 0) 1 1 Tryz.underlying29 hi hz0 hz1 hz2 rfl (by decide) v n xs hs hown ⟨b, off, none⟩ lx.length cap (byteCells lx) hx (by rw [byteCells_length]; omega) ?_ ?_ (by unfold maxLen; omega) (by omega) hbase ?_
    · intro j u hj
      have hjl : j < lx.length := by
        have := (List.getElem?_eq_some_iff.1 hj).1
        rwa [byteCells_length] at this
      have e2 : (byteCells lx)[j]? = some (.int .u8 ((lx.getD j 0).toNat : Int)) := by
        simp [byteCells, hjl]
      have hj2 := Option.some.inj (e2.symm.trans hj)
      rw [← hj2]
      have e3 : (⟨b, off, none⟩ : Addr).add j = ⟨b, off + j, none⟩ := by unfold Addr.add; split <;> simp_all
      rw [e3]; exact hcell j hjl
    · intro u hu
      simp only [byteCells, List.mem_map] at hu
      obtain ⟨c, _, rfl⟩ := hu
      rfl
    · intro v' w' h1 h2 _
      exact h v' w' h1 (KeepT.of_grown hown h2) ((Below.refl _ _).grown h2 hbase (own_block_ge hown))

theorem bt {a b c : World} (h : Below a.heap.size a b) (h' : Below b.heap.size b c) : Below a.heap.size a c := h.trans (h'.mono h.size)
/-- A slice that reads as these bytes, whatever its size. -/
def RBu (w : World) (B : Nat) (v : Value) (l : List UInt8) : Prop :=
  (v = .slice none 0 0 ∧ l = []) ∨ ∃ b off cap, b < B ∧ l.length ≤ cap ∧ cap ≤ maxLen ∧ v = .slice (some ⟨b, off, none⟩) l.length cap ∧ ∀ i, i < l.length → w.cell? ⟨b, off + i, none⟩ = some (.int .u8 ((l.getD i 0).toNat : Int))
theorem RBu.rb {w : World} {B : Nat} {v : Value} {l : List UInt8} (h : RBu w B v l) (hl : l.length ≤ 1000000000000) : RBp w B v l := by
  rcases h with h | ⟨b, off, cap, h1, h2, h3, h4, h5⟩
  · exact ⟨hl, .inl h⟩
  · exact ⟨hl, .inr ⟨b, off, cap, h1, h2, h3, h4, h5⟩⟩
theorem RBu.len {w : World} {B : Nat} {v : Value} {l : List UInt8} (h : RBu w B v l) : ∃ a k, v = .slice a l.length k := by
  rcases h with ⟨rfl, rfl⟩ | ⟨b, off, cap, h1, h2, h3, rfl, h5⟩
  · exact ⟨none, 0, rfl⟩
  · exact ⟨_, _, rfl⟩

theorem text_take (s : ByteArray) (lm : List UInt8) : (⟨(((textBytes s ++ lm).drop (uvarint s.size).length).take s.size).toArray⟩ : ByteArray) = s := by
  have e : ((textBytes s ++ lm).drop (uvarint s.size).length).take s.size = s.data.toList := by
    rw [textBytes, List.append_assoc, List.drop_left, ← bytes_length s, List.take_left]
  rw [e]
theorem dec_text (s : ByteArray) (lm : List UInt8) (hs : s.size < 18446744073709551616) : decU (textBytes s ++ lm) = (s.size, (uvarint s.size).length, 0, 0) := by
  rw [textBytes, List.append_assoc]; exact decU_uv s.size hs _
theorem own_rb2 {w' : World} {v : Value} {B : Nat} {x y : List UInt8} (ho : w'.ownsRow B 5 1 v (0 + x.length + y.length) ([] ++ byteCells x ++ byteCells y)) (hl : x.length + y.length ≤ 1000000000000) : RBp w' w'.heap.size v (x ++ y) := by
  refine rb_own (B := B) ?_ (by simpa using hl)
  rw [byteCells_append, List.length_append]
  simpa using ho
theorem own_rb (x : List UInt8) {w w' : World} {v : Value} (ho : w'.ownsRow w.heap.size 5 1 v x.length (byteCells x)) (hl : x.length ≤ 1000000000000) : ∃ a k, v = .slice a x.length k ∧ RBp w' w'.heap.size (.slice a x.length k) x := by
  obtain ⟨a, k, rfl⟩ := own_slice ho
  exact ⟨a, k, rfl, rb_own ho hl⟩

end Go.Proofs.YtpminalccnhkjaaGreatDoor
