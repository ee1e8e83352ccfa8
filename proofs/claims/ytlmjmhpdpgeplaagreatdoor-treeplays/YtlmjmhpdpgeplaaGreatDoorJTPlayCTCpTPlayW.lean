/- TreePlays: the calls of a step, each with what stands behind it. -/
import Derived.Test.YtlmjmhpdpgeplaaGreatDoorJTEntTPlayMTPl2TPlayE
import Derived.Test.YtlmjmhpdpgeplaaGreatDoorJTNodeRTNodeL
import Derived.Test.YtlmjmhpdpgeplaaGreatDoorTRead
import Derived.Test.YtlmjmhpdpgeplaaGreatDoorJTAsCTOneTLoadsTFewTLaidTLaid4TPlayIn
import Derived.Test.YtlmjmhpdpgeplaaGreatDoorTPl
namespace Go.Proofs.YtlmjmhpdpgeplaaGreatDoor
open Go.RowKit Go.Lib

theorem br_text {w : World} {B n : Nat} {v : Value} {k : ByteArray} (h : w.ownsRow B 5 1 v n (Lib.byteCells k.data.toList)) (hn : n = k.data.toList.length) : BR w v k := by
  have := br_own _ h hn
  rw [show (⟨k.data.toList.toArray⟩ : ByteArray) = k from text_ext (by simp)] at this
  exact this
theorem txt_own {w : World} {B n : Nat} {v : Value} {k : ByteArray} (h : w.ownsRow B 5 1 v n (Lib.byteCells k.data.toList)) (hn : n = k.data.toList.length) : Txt w v k := fun _ hb => ((br_text h hn).below hb).conv
/-- The round's own bytes: a key and a value, apart. -/
structure KV2 (w wr : World) (X : Nat → Prop) (u v : Value) (key val : ByteArray) : Prop where
  ou : ∃ B, wr.ownsRow B 5 1 u key.data.toList.length (Lib.byteCells key.data.toList)
  ov : ∃ B, wr.ownsRow B 5 1 v val.data.toList.length (Lib.byteCells val.data.toList)
  xu : ∀ g, u.ownBlock = some g → X g ∧ w.heap.size ≤ g
  xv : ∀ g, v.ownBlock = some g → X g ∧ w.heap.size ≤ g
  ap : ∀ g, u.ownBlock = some g → v.ownBlock ≠ some g
  ku : key.size ≤ 100
  kv : val.size ≤ 100
section
variable {w wr W : World} {p q cl i : Nat} {X : Nat → Prop} {u v vm vo : Value} {F G : List It} {fr key val : ByteArray}
theorem KV2.keep (k : KV2 w wr X u v key val) (hk : ∀ g, X g → W.heap[g]? = wr.heap[g]?) : KV2 w W X u v key val := by
  obtain ⟨B, o⟩ := k.ou
  obtain ⟨B', o'⟩ := k.ov
  exact ⟨⟨B, own_keep o (fun g hg _ => hk g (k.xu g hg).1)⟩, ⟨B', own_keep o' (fun g hg _ => hk g (k.xv g hg).1)⟩, k.xu, k.xv, k.ap, k.ku, k.kv⟩
theorem PQ.frame {M : List It} (h : PQ w wr p q cl X vm vo F M G fr) : (∀ g, X g → g < wr.heap.size) ∧ ¬ X p := ⟨fun g hg => h.tree.2.1 g (.inr hg), fun hx => h.tree.1 (.inr hx)⟩
theorem len_data (k : ByteArray) : k.data.toList.length = k.size := by rw [Array.length_toList]; rfl
theorem put_chain (h : PQ w wr p q cl X vm vo F F G fr) (k : KV2 w wr X u v key val) (hn : F.length ≤ 1000000) :
    Calls Tryz.prog 10 #[.pointer (some ⟨p, 0, none⟩), u, v] wr fun e w1 => e = .returned (.bool (!hasL key F)) ∧ Hid (Calls Tryz.prog 11 #[u] w1 fun e w2 => e = .returned (.tuple #[]) ∧ Hid (Calls Tryz.prog 11 #[v] w2 fun e w3 => e = .returned (.tuple #[]) ∧ Hid (PQ w w3 p q cl X vm vo (insL (key, val) F) F G fr))) := by
  obtain ⟨hX, hXp⟩ := h.frame
  obtain ⟨B, o⟩ := k.ou
  obtain ⟨B', o'⟩ := k.ov
  refine (h.tree.put (x := (key, val)) (txt_own o rfl) (txt_own o' rfl) hn).mono ?_
  rintro e w1 ⟨rfl, z1, z2⟩
  have k1 := k.keep (W := w1) (fun g hg => z2.2.2.2.2 g (hX g hg) (fun e => hXp (e ▸ hg)))
  have h1 := h.turn z2 z1
  obtain ⟨B1, o1⟩ := k1.ou
  refine ⟨rfl, (spoil_any o1 (by rw [len_data]; have := k.ku; omega)).mono ?_⟩
  rintro e w2 ⟨rfl, s2⟩
  have h2 := h1.spoil s2 k.xu
  obtain ⟨B2, o2⟩ := k1.ov
  have o2' := own_keep o2 (w' := w2) (fun g hg _ => s2.2.2.2.2 g (fun e => k.ap g e hg))
  refine ⟨rfl, (spoil_any o2' (by rw [len_data]; have := k.kv; omega)).mono ?_⟩
  rintro e w3 ⟨rfl, s3⟩
  exact ⟨rfl, h2.spoil s3 k.xv⟩
theorem del_chain (h : PQ w wr p q cl X vm vo F F G fr) (k : KV2 w wr X u v key val) (hn : F.length ≤ 1000000) :
    Calls Tryz.prog 12 #[.pointer (some ⟨p, 0, none⟩), u] wr fun e w1 => e = .returned (.bool (hasL key F)) ∧ Hid (PQ w w1 p q cl X vm vo (delL key F) F G fr) := by
  obtain ⟨B, o⟩ := k.ou
  refine (h.tree.del (txt_own o rfl) hn).mono ?_
  rintro e w1 ⟨rfl, z1, z2⟩
  exact ⟨rfl, h.turn z2 z1⟩
theorem seek_chain (h : PQ w wr p q cl X vm vo F F G fr) (k : KV2 w wr X u v key val) :
    Calls Tryz.prog 7 #[.pointer (some ⟨p, 0, none⟩), u] wr fun e w1 => ∃ q' : Nat, e = .returned (.pointer (some ⟨q', 0, none⟩)) ∧ Hid (Calls Tryz.prog 11 #[u] w1 fun e w2 => e = .returned (.tuple #[]) ∧ Hid (PQ w w2 p q' cl X vm vo F F G key)) := by
  obtain ⟨hX, hXp⟩ := h.frame
  obtain ⟨B, o⟩ := k.ou
  refine (Seek_any (p := p) (txt_own o rfl)).mono ?_
  rintro e w1 ⟨rfl, z1, z2, z3⟩
  have h1 := h.seek z2 rfl z3 z1
  obtain ⟨B1, o1⟩ := (k.keep (W := w1) (fun g hg => z2.block g (hX g hg))).ou
  refine ⟨_, rfl, (spoil_any o1 (by rw [len_data]; have := k.ku; omega)).mono ?_⟩
  rintro e w2 ⟨rfl, s2⟩
  exact ⟨rfl, h1.spoil s2 k.xu⟩
theorem next_some {x : It} (h : PQ w wr p q cl X vm vo F F G fr) (hsm : Bnd i F) (hx : leastL fr F = some x) :
    Calls Tryz.prog 13 #[.pointer (some ⟨q, 0, none⟩)] wr fun e w1 => ∃ vk vv, e = .returned (.tuple #[vk, vv, .bool true]) ∧ Hid (BR w1 vk x.1 ∧ BR w1 vv x.2 ∧ PQ w w1 p q cl X vm vo F F G (behindK x.1)) := by
  obtain ⟨_, _, O, hT, _⟩ := h.tree
  refine (Next_any hT h.cur (fun y hy => by have := hsm.2 y hy; omega)).mono ?_
  rintro e w1 ⟨z1, ⟨x', vk, vv, zx, rfl, z2, z3, z4⟩ | ⟨zx, _⟩⟩
  · rw [hx] at zx
    cases zx
    exact ⟨vk, vv, rfl, z3, z4, h.next z1 z2⟩
  · rw [hx] at zx; cases zx
theorem next_none (h : PQ w wr p q cl X vm vo F F G fr) (hsm : Bnd i F) (hx : leastL fr F = none) :
    Calls Tryz.prog 13 #[.pointer (some ⟨q, 0, none⟩)] wr fun e w1 => e = .returned (.tuple #[.slice none 0 0, .slice none 0 0, .bool false]) ∧ Hid (PQ w w1 p q cl X vm vo F F G fr) := by
  obtain ⟨_, _, O, hT, _⟩ := h.tree
  refine (Next_any hT h.cur (fun y hy => by have := hsm.2 y hy; omega)).mono ?_
  rintro e w1 ⟨z1, ⟨x', vk, vv, zx, _⟩ | ⟨_, rfl, z2⟩⟩
  · rw [hx] at zx; cases zx
  · exact ⟨rfl, h.next z1 z2⟩
theorem clone_chain (h : PQ w wr p q cl X vm vo F F G fr) :
    Calls Tryz.prog 8 #[.pointer (some ⟨p, 0, none⟩)] wr fun e w1 => ∃ c' : Nat, e = .returned (.pointer (some ⟨c', 0, none⟩)) ∧ Hid (PQ w w1 p q c' X vm vm F F F fr) := by
  refine h.tree.clone.mono ?_
  rintro e w1 ⟨c', rfl, z0, z1, z2, z3⟩
  exact ⟨c', rfl, h.clones z2 z0 z1⟩
theorem get_some {s : ByteArray} (h : PQ w wr p q cl X vm vo F F G fr) (k : KV2 w wr X u v key val) (hx : getL key F = some s) :
    Calls Tryz.prog 14 #[.pointer (some ⟨p, 0, none⟩), u] wr fun e w1 => ∃ vv, e = .returned (.tuple #[vv, .bool true]) ∧ Hid (BR w1 vv s ∧ PQ w w1 p q cl X vm vo F F G fr) := by
  obtain ⟨_, _, O, hT, _⟩ := h.tree
  obtain ⟨B, o⟩ := k.ou
  refine (Get_any hT (txt_own o rfl)).mono ?_
  rintro e w1 ⟨z1, ⟨zx, _⟩ | ⟨s', vv, zx, rfl, z2⟩⟩
  · rw [hx] at zx; cases zx
  · rw [hx] at zx
    cases zx
    exact ⟨vv, rfl, z2, h.below z1⟩
theorem get_none (h : PQ w wr p q cl X vm vo F F G fr) (k : KV2 w wr X u v key val) (hx : getL key F = none) :
    Calls Tryz.prog 14 #[.pointer (some ⟨p, 0, none⟩), u] wr fun e w1 => e = .returned (.tuple #[.slice none 0 0, .bool false]) ∧ Hid (PQ w w1 p q cl X vm vo F F G fr) := by
  obtain ⟨_, _, O, hT, _⟩ := h.tree
  obtain ⟨B, o⟩ := k.ou
  refine (Get_any hT (txt_own o rfl)).mono ?_
  rintro e w1 ⟨z1, ⟨_, rfl⟩ | ⟨s', vv, zx, _⟩⟩
  · exact ⟨rfl, h.below z1⟩
  · rw [hx] at zx; cases zx
theorem len_chain (h : PQ w wr p q cl X vm vo F F G fr) : Calls Tryz.prog 15 #[.pointer (some ⟨p, 0, none⟩)] wr fun e w' => e = .returned (.int .i64 (F.length : Int)) ∧ w' = wr := by
  obtain ⟨_, _, O, hT, _⟩ := h.tree
  exact Len_any hT
end
end Go.Proofs.YtlmjmhpdpgeplaaGreatDoor
/- Bytes copied: append([]byte(nil), s...), as a step of a region that draws. -/
namespace Go.Proofs.YtlmjmhpdpgeplaaGreatDoor
open Go.RowKit Go.Lib

theorem step_cp {ops : Array Oper} {o : Oper} {a : Act} {w : World} {K : Act → World → Prop} {Q : Exit → Act → World → Prop} {E : Prop} {d : Nat} (hgd : o.guard = none) (hd : o.dst = some d) (x : Operand)
    (ho : o.op = .call { callee := .builtin .append, args := #[.const (.slice none 0 0), x], argTypes := #[30, 30] })
    {r : Nat} {u : Value} {l : List UInt8} (hx : a.eval x = u) (hu : BL w r u l) (hn : l.length ≤ 1000000)
    (h : ∀ v' w', w'.ownsRow w.heap.size 5 1 v' l.length (Lib.byteCells l) → Below w.heap.size w w' → K (a.put (some d) v') w') : if Region.wanted o (yielded ops a.tmps) = true then Oper.wp Tryz.prog o a w K Q else E := by
  rw [← hd] at h
  obtain ⟨i0, hi, hz0, hz1, hz2⟩ := info_parts Tryz.infoB
  have hw : Region.wanted o (yielded ops a.tmps) = true := by simp [Region.wanted, hgd]
  rw [if_pos hw]
  have hs : a.eval (.const (.slice none 0 0)) = .slice none 0 0 := rfl
  have hown : w.ownsRow w.heap.size 5 1 (.slice none 0 0) 0 [] := World.ownsRow_nil _ _ _ _
  rcases hu with ⟨rfl, rfl⟩ | ⟨b, off, cap, rfl, h2, h3, h4, h5, h6⟩
  · have hrun := run_append_owned_none (P := Tryz.prog) (w := w) w.heap.size 30 o.type 5 i0 1 Tryz.underlying30 hi _ 0 [] hown
    unfold Oper.wp
    simp [execOp, ho, resolve, invoke, builtin, hs, hx, hrun, Result.andThen]
    exact h _ w hown (Below.refl _ _)
  · obtain ⟨v', w', hrun, q2, q3, _, q5⟩ := run_append_own_at (P := Tryz.prog) w w.heap.size 30 o.type 5 i0 _ 1 1 Tryz.underlying30 hi hz0 hz1 hz2 rfl (by decide) _ 0 [] hown ⟨b, off, none⟩ l.length cap (Lib.byteCells l) (by rw [byteCells_length]; omega) (fun j u hj => by
        rw [Go.WideShapes.add_plain]
        unfold Lib.byteCells at hj
        rw [List.getElem?_map] at hj
        cases hl : l[j]? with
        | none => rw [hl] at hj; cases hj
        | some c =>
          rw [hl] at hj
          cases hj
          have hjl := (List.getElem?_eq_some_iff.1 hl).1
          rw [h6 j hjl]
          simp [List.getD_eq_getElem?_getD, hl]) (bytes_one _) (by unfold maxLen; omega) (by omega) (Nat.le_refl _)
    unfold Oper.wp
    simp [execOp, ho, resolve, invoke, builtin, hs, hx, hrun, Result.andThen]
    refine h v' w' (own_cast2 q2 (by omega) (by simp)) ?_
    exact (Below.refl _ _).grown q3 (Nat.le_refl _) (own_blk hown)
end Go.Proofs.YtlmjmhpdpgeplaaGreatDoor
/- TreePlays: its own row of entries: parts of it, appends to it, an entry's value written; a cursor's place. -/
namespace Go.Proofs.YtlmjmhpdpgeplaaGreatDoor
open Go.RowKit Go.Lib

def frK (last : ByteArray) (sm : Bool) : ByteArray := if sm then behindK last else last
theorem cut_hi (a : Option Addr) (n c j : Nat) (hj : j ≤ c) (W : World) : (Instr.slice 27 (.slice a n c) none (some (.int .i64 (j : Int))) none).run Tryz.prog W = .ok (cutV a 0 j c) W := by
  have h0 : (0 : Int) ≤ (j : Int) := by omega
  have h1 : (j : Int) ≤ (c : Int) := by omega
  unfold cutV
  go_simp
theorem cut_lo (a : Option Addr) (n c i : Nat) (hi : i ≤ n) (hn : n ≤ c) (W : World) : (Instr.slice 27 (.slice a n c) (some (.int .i64 (i : Int))) none none).run Tryz.prog W = .ok (cutV a i n c) W := by
  have h0 : (0 : Int) ≤ (i : Int) := by omega
  have h1 : (i : Int) ≤ (n : Int) := by omega
  have h2 : (n : Int) ≤ (c : Int) := by omega
  unfold cutV
  go_simp
theorem BL.txt {w : World} {r : Nat} {v : Value} {l : List UInt8} {k : ByteArray} (h : BL w r v l) (hl : l = k.data.toList) : Txt w v k := by
  subst hl
  have : BR w v k := by
    have := h.br
    exact this
  exact fun w' hb => (this.below hb).conv
theorem BZ.txt {w : World} {v : Value} {l : List UInt8} {k : ByteArray} (h : BZ w v l) (hl : l = k.data.toList) : Txt w v k := by
  rcases h with h | ⟨rfl, ad, c, rfl, _⟩
  · exact h.txt hl
  · have e : k = ⟨#[]⟩ := text_ext (by rw [← hl])
    rw [e]
    exact fun w' _ => conv_zero _ _ _
theorem step_cz {ops : Array Oper} {o : Oper} {a : Act} {w : World} {K : Act → World → Prop} {Q : Exit → Act → World → Prop} {E : Prop} {d : Nat} (hgd : o.guard = none) (hd : o.dst = some d) (x : Operand)
    (ho : o.op = .call { callee := .builtin .append, args := #[.const (.slice none 0 0), x], argTypes := #[30, 30] })
    {u : Value} {l : List UInt8} (hx : a.eval x = u) (hu : BZ w u l) (hn : l.length ≤ 1000000)
    (h : ∀ v' w', w'.ownsRow w.heap.size 5 1 v' l.length (Lib.byteCells l) → Below w.heap.size w w' → K (a.put (some d) v') w') : if Region.wanted o (yielded ops a.tmps) = true then Oper.wp Tryz.prog o a w K Q else E := by
  rcases hu with hu | ⟨rfl, ad, c, rfl, hc⟩
  · exact step_cp hgd hd x ho hx hu hn h
  · rw [← hd] at h
    obtain ⟨i0, hi, hz0, hz1, hz2⟩ := info_parts Tryz.infoB
    have hw : Region.wanted o (yielded ops a.tmps) = true := by simp [Region.wanted, hgd]
    rw [if_pos hw]
    have hs : a.eval (.const (.slice none 0 0)) = .slice none 0 0 := rfl
    have hown : w.ownsRow w.heap.size 5 1 (.slice none 0 0) 0 [] := World.ownsRow_nil _ _ _ _
    obtain ⟨v', w', hrun, q2, q3, _, q5⟩ := run_append_own_at (P := Tryz.prog) w w.heap.size 30 o.type 5 i0 _ 1 1 Tryz.underlying30 hi hz0 hz1 hz2 rfl (by decide) _ 0 [] hown ad 0 c [] rfl (fun j u hj => by simp at hj) (fun u hu => by cases hu) (by unfold maxLen; omega) (by omega) (Nat.le_refl _)
    unfold Oper.wp
    simp [execOp, ho, resolve, invoke, builtin, hs, hx, hrun, Result.andThen]
    refine h v' w' (own_cast2 q2 (by simp) (by simp [Lib.byteCells])) ?_
    exact (Below.refl _ _).grown q3 (Nat.le_refl _) (own_blk hown)
/-- A row of entries of the round's own. -/
def RowE (B : Nat) (w : World) (v : Value) (l : List It) : Prop := w.ownsRow B 38 2 v (l.map itV).length (c2 (l.map itV))
theorem RowE.nil (B : Nat) (w : World) : RowE B w (.slice none 0 0) [] := World.ownsRow_nil _ _ _ _
theorem RowE.r2 {B : Nat} {w : World} {v : Value} {l : List It} (h : RowE B w v l) : R2 w v (l.map itV) := R2.own h rfl (one_it l)
theorem RowE.ge {B : Nat} {w : World} {v : Value} {l : List It} (h : RowE B w v l) : ∀ g, inB2 v g → B ≤ g := own_in h
theorem RowE.after {B : Nat} {w w' : World} {v : Value} {l : List It} (h : RowE B w v l) (hb : Below w.heap.size w w') : RowE B w' v l := own_after h hb
theorem wpList_app_e {w : World} {ops : Array Oper} {rest : List Oper} {o : Oper} {a : Act} {Q : Exit → Act → World → Prop} (hgd : o.guard = none) (s x : Operand)
    (ho : o.op = .call { callee := .builtin .append, args := #[s, x], argTypes := #[27, 27] })
    (B : Nat) (v : Value) (l l2 : List It) (xv : Value) (hs : a.eval s = v) (hown : RowE B w v l) (hx : a.eval x = xv) (hR : R2 w xv (l2.map itV)) (hn : l.length ≤ 1000000) (hn2 : l2.length ≤ 1000000) (hB : B ≤ w.heap.size)
    (h : ∀ (ad : Option Addr) (n k : Nat) (w' : World), n = (l ++ l2).length → RowE B w' (.slice ad n k) (l ++ l2) → Below B w w' → wpList Tryz.prog ops Q rest (a.put o.dst (.slice ad n k)) w') : wpList Tryz.prog ops Q (o :: rest) a w := by
  refine wpList_append_entry hgd s x ho B v (l.map itV) (l2.map itV) xv hs hown hx hR (by simpa using hn) (by simpa using hn2) hB ?_
  intro v' w' ho' hb
  rw [← List.map_append] at ho'
  obtain ⟨ad, k, rfl⟩ := own_sl ho'
  exact h ad _ k w' (by simp) ho' hb
/-- An entry of a new row: where its value lies, and the row with another value there. -/
theorem RowE.open {B : Nat} {w : World} {ad : Option Addr} {n k i : Nat} {l : List It} {y : It} (h : RowE B w (.slice ad n k) l) (hy : l[i]? = some y) :
    ∃ b off, ad = some ⟨b, off, none⟩ ∧ w.cell? ⟨b, off + i * 2 + 1, none⟩ = some (.string y.2) ∧ w.frozen? ⟨b, off + i * 2 + 1, none⟩ = false ∧ b < w.heap.size ∧
      ∀ s : ByteArray, R2 (w.setCell ⟨b, off + i * 2 + 1, none⟩ (.string s)) (.slice (some ⟨b, off, none⟩) n k) ((l.set i (y.1, s)).map itV) ∧ Below B w (w.setCell ⟨b, off + i * 2 + 1, none⟩ (.string s)) := by
  have hr := h.r2
  have hge := h.ge
  obtain ⟨a', k', e, _, _⟩ := hr.slice
  cases e
  have hit : (l.map itV)[i]? = some (itV y) := by rw [List.getElem?_map, hy]; rfl
  obtain ⟨b, off, rfl, hb, c0, c1⟩ := hr.at hit
  have hB := hge b ⟨_, _, _, rfl⟩
  refine ⟨b, off, rfl, c1, ?_, hb, fun s => ⟨?_, ?_⟩⟩
  · obtain ⟨_, ⟨e, _⟩ | ⟨g, k2, cur, e, _, hc, _⟩⟩ := h
    · cases e
    · cases e
      exact frzB2 hc _
  · have := hr.set (y := .string s) hit rfl
    rw [List.map_set]
    exact this
  · refine ⟨rfl, rfl, rfl, by simp, fun g hg => ?_⟩
    exact Below.heap_setCell w ⟨b, off + i * 2 + 1, none⟩ _ g (by show g ≠ b; omega)
theorem r2_new (w : World) (x : It) : R2 (w.alloc (.cells #[.string x.1, .string x.2] 38)) (.slice (some ⟨w.heap.size, 0, none⟩) 1 1) ([x].map itV) := by
  have hc := heap_alloc_new w (.cells #[.string x.1, .string x.2] 38)
  refine ⟨one_it [x], .inr ⟨w.heap.size, 0, 1, rfl, by simp, Nat.le_refl _, by decide, fun i y hy => ?_⟩⟩
  match i, hy with
  | 0, hy =>
    cases hy
    exact ⟨cellB2 hc _, cellB2 hc _⟩
  | i + 1, hy => simp at hy
theorem set_ins {F : List It} {key val : ByteArray} {i : Nat} {y : It} (hp : PlaceAt F key i) (hh : hereB F key i = true) (hy : F[i]? = some y) (h0 : kc y.1 key = 0) : F.set i (y.1, val) = insL (key, val) F := by
  have hl := (List.getElem?_eq_some_iff.1 hy).1
  rw [ins_list (x := (key, val)) hp, if_pos hh, List.set_eq_take_append_cons_drop, if_pos hl, kc_eq h0]
theorem not_ins {F : List It} {key val : ByteArray} {i : Nat} (hp : PlaceAt F key i) (hh : hereB F key i = false) : [] ++ F.take i ++ [(key, val)] ++ F.drop i = insL (key, val) F := by
  rw [ins_list (x := (key, val)) hp, if_neg (by simp [hh])]
  simp
theorem del_ins {F : List It} {key : ByteArray} {i : Nat} (hp : PlaceAt F key i) (hh : hereB F key i = true) : [] ++ F.take i ++ F.drop (i + 1) = delL key F := by
  rw [del_list hp hh, List.nil_append]
/-- Where a cursor goes on. -/
theorem next_at {F : List It} {last : ByteArray} {i : Nat} {sm is : Bool} (hs : Srt F) (hp : PlaceAt F last i) (hh : hereB F last i = is) : leastL (frK last sm) F = F[if (sm && is) = true then i + 1 else i]? := by
  refine least_list ?_
  cases sm with
  | false => exact hp
  | true =>
    obtain ⟨h1, h2, h3⟩ := hp
    show PlaceAt F (behindK last) _
    have hb : ∀ z : ByteArray, kc z (behindK last) < 0 ↔ ¬ kc last z < 0 := fun z => by
      have := behind_le (k := last) (z := z)
      omega
    cases is with
    | true =>
      obtain ⟨y, hy, hy0⟩ := here_some hh
      have hl := (List.getElem?_eq_some_iff.1 hy).1
      refine ⟨by simp; omega, fun t x hx ht => (hb _).2 ?_, fun t x hx ht => behind_le.2 ?_⟩
      · have ht' : t < i + 1 := by simpa using ht
        have ha := kc_cmp.anti last x.1
        by_cases e : t = i
        · subst e
          rw [hx] at hy
          cases hy
          omega
        · have := h2 t x hx (by omega)
          omega
      · have ht' : i + 1 ≤ t := by simpa using ht
        have h4 := srt_lt hs hy hx (by omega)
        rw [kc_eq hy0] at h4
        exact h4
    | false =>
      refine ⟨by simpa using h1, fun t x hx ht => (hb _).2 ?_, fun t x hx ht => behind_le.2 ?_⟩
      · have := h2 t x hx (by simpa using ht)
        have ha := kc_cmp.anti last x.1
        omega
      · have ht' : i ≤ t := by simpa using ht
        have h4 := h3 t x hx ht'
        have ha := kc_cmp.anti last x.1
        have hne : kc x.1 last ≠ 0 := fun e => by
          by_cases e' : t = i
          · subst e'
            unfold hereB at hh
            rw [hx] at hh
            simp [e] at hh
          · obtain ⟨z, hz⟩ : ∃ z, F[i]? = some z := ⟨_, List.getElem?_eq_getElem (by have := (List.getElem?_eq_some_iff.1 hx).1; omega)⟩
            have h5 := h3 i z hz (Nat.le_refl _)
            have h6 := srt_lt hs hz hx (by omega)
            rw [kc_eq e] at h6
            omega
        omega
theorem bnd_del {i : Nat} {F : List It} {key : ByteArray} (h : Bnd i F) : Bnd (i + 1) (delL key F) := ⟨by have := (delL_sub (k := key) F).length_le; have := h.1; omega, fun y hy => h.2 y ((delL_sub F).mem hy)⟩
theorem bnd_ins {i : Nat} {F : List It} {x : It} (h : Bnd i F) (hs : Srt F) (hx : x.1.size ≤ 100 ∧ x.2.size ≤ 100) : Bnd (i + 1) (insL x F) := by
  refine ⟨?_, fun y hy => (insL_mem hy).elim (fun e => e ▸ hx) (h.2 y)⟩
  have := h.1
  cases hh : hasL x.1 F with
  | true => rw [ins_had hs hh]; omega
  | false => rw [ins_has hh]; omega
theorem cut1 {w : World} {a : Option Addr} {n k j : Nat} {F : List It} (h : R2 w (.slice a n k) (F.map itV)) (hj : j ≤ F.length) : R2 w (cutV a 0 j k) ((F.take j).map itV) := by
  have := h.cut (i := 0) (j := j) (Nat.zero_le _) (by simpa using hj)
  rw [List.drop_zero, ← List.map_take] at this
  exact this
theorem cut2 {w : World} {a : Option Addr} {n k i : Nat} {F : List It} (h : R2 w (.slice a n k) (F.map itV)) (hn : n = F.length) (hi : i ≤ n) : R2 w (cutV a i n k) ((F.drop i).map itV) := by
  have := h.cut (i := i) (j := n) hi (by simp; omega)
  rw [List.take_of_length_le (by simp; omega), ← List.map_drop] at this
  exact this
theorem bnd_up {i : Nat} {F : List It} (h : Bnd i F) : Bnd (i + 1) F := ⟨by have := h.1; omega, h.2⟩
end Go.Proofs.YtlmjmhpdpgeplaaGreatDoor
