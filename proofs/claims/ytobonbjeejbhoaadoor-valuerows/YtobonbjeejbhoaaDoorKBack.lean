/- Keys come back. -/
import Derived.Test.YtobonbjeejbhoaaDoorKUn
namespace Go.Proofs.YtobonbjeejbhoaaDoor
open Go.RowKit Go.Lib

theorem foldl_beN : ∀ (k m x : Nat), m < 256 ^ k → (beN k m).foldl (fun x c => x * 256 + c.toNat) x = x * 256 ^ k + m
  | 0, m, x, h => by
    have : m = 0 := by simpa using h
    subst this; simp [beN]
  | k + 1, m, x, h => by
    have hP : 0 < 256 ^ k := Nat.pow_pos (by decide)
    have q1 : m / 256 ^ k < 256 := Nat.div_lt_of_lt_mul (by rw [← Nat.pow_succ]; exact h)
    have ih := foldl_beN k (m % 256 ^ k) (x * 256 + (m / 256 ^ k)) (Nat.mod_lt _ hP)
    rw [beN, List.foldl_cons, toUInt8_lt q1, ih, Nat.add_mul, Nat.pow_succ, Nat.mul_assoc, Nat.mul_comm 256, Nat.add_assoc]
    have := Nat.div_add_mod m (256 ^ k)
    rw [Nat.mul_comm (m / 256 ^ k)]
    omega
theorem decN_beN {m : Nat} (h : m < 18446744073709551616) : decN (beN 8 m) = m := by
  have := foldl_beN 8 m 0 h
  simpa [decN] using this
theorem idx_text : ∀ (t r : List UInt8), 0 ∉ t → indexByte (t ++ 0 :: r) 0 = t.length
  | [], r, _ => by simp [indexByte]
  | c :: t, r, h => by
    have hc : (c == 0) = false := by
      rw [beq_eq_false_iff_ne]; intro e; exact h (by simp [e])
    have ih := idx_text t r (fun e => h (by simp [e]))
    rw [List.cons_append, indexByte, hc, ih]
    simp only [Bool.false_eq_true, if_false, List.length_cons]
    rw [if_neg (by simp)]
    omega
theorem key_size {g : GV} (hg : g.may = true) (r : List UInt8) : szG (keyV g ++ r) = (keyV g).length := by
  have hk := may_kind' hg
  obtain ⟨k, n, t⟩ := g
  dsimp only at hk
  rcases hk with rfl | rfl | rfl | rfl
  · rfl
  · rfl
  · show szG (2 :: (beN 8 _ ++ r)) = (2 :: beN 8 _).length
    rw [List.length_cons, beN_length]; rfl
  · obtain ⟨rfl, _, z⟩ := may_3 hg
    show szG (3 :: (t.data.toList ++ [0]) ++ r) = (3 :: (t.data.toList ++ [0])).length
    have e : indexByte (3 :: (t.data.toList ++ [0]) ++ r) 0 = (3 :: t.data.toList).length := by
      have := idx_text (3 :: t.data.toList) r (by
        have := no_zero _ z
        intro h
        rcases List.mem_cons.1 h with h | h
        · cases h
        · exact this h)
      simpa using this
    unfold szG
    rw [e]
    simp
    omega
theorem key_val {g : GV} (hg : g.may = true) (ok : g.ok) : valG (keyV g) = g := by
  have hk := may_kind' hg
  obtain ⟨k, n, t⟩ := g
  dsimp only at hk
  rcases hk with rfl | rfl | rfl | rfl
  · obtain ⟨rfl, rfl⟩ := may_0 hg
    rfl
  · obtain ⟨hn, rfl⟩ := may_1 hg
    rcases hn with rfl | rfl <;> rfl
  · obtain rfl := may_2 hg
    have h1 := ok.1
    have h2 := ok.2.1
    dsimp only at h1 h2
    show (⟨2, (decN (beN 8 (n + 9223372036854775808).toNat) : Int) - 9223372036854775808, ⟨#[]⟩⟩ : GV) = _
    rw [decN_beN (by omega)]
    congr 1
    omega
  · obtain ⟨rfl, _, z⟩ := may_3 hg
    show (⟨3, 0, ⟨((t.data.toList ++ [0]).take ((3 :: (t.data.toList ++ [0])).length - 2)).toArray⟩⟩ : GV) = _
    have e : (t.data.toList ++ [0]).take ((3 :: (t.data.toList ++ [0])).length - 2) = t.data.toList := by
      rw [List.take_append_of_le_length (by simp)]
      exact List.take_of_length_le (by simp)
    rw [e]
theorem keyV_ne (g : GV) : keyV g ≠ [] := by
  unfold keyV
  repeat' split
  all_goals simp
theorem un_back : ∀ (gs done : List GV), (∀ g ∈ gs, g.may = true ∧ g.ok) → done.length + gs.length ≤ 16 → unG (keyG gs).length done (keyG gs) = some (done ++ gs)
  | [], done, _, _ => by
    show unG 0 done [] = _
    rw [unG_nil]; simp
  | g :: gs, done, h, hl => by
    obtain ⟨h1, h2⟩ := h g (List.mem_cons_self)
    have e : keyG (g :: gs) = keyV g ++ keyG gs := rfl
    have hz := key_size h1 (keyG gs)
    have hne : keyG (g :: gs) ≠ [] := by rw [e]; simp [keyV_ne]
    rw [← e] at hz
    have ht : (keyG (g :: gs)).take (szG (keyG (g :: gs))) = keyV g := by rw [hz, e]; simp
    have hd : (keyG (g :: gs)).drop (szG (keyG (g :: gs))) = keyG gs := by rw [hz, e]; simp
    have hv := key_val h1 h2
    have s := un_step (done := done) hne (by rw [hz, e]; simp) (by simp at hl; omega) (by rw [ht, hv]; exact h1)
    rw [s, ht, hd, hv, un_back gs (done ++ [g]) (fun x hx => h x (List.mem_cons_of_mem _ hx)) (by simp at hl ⊢; omega)]
    simp
end Go.Proofs.YtobonbjeejbhoaaDoor
