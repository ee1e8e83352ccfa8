/- The reader of a tree's bytes: node. -/
import Derived.Test.YtmahkhpmaenkhaaDoorTItem
namespace Go.Proofs.YtmahkhpmaenkhaaDoor
open Go.RowKit Go.Lib

theorem rd_fail {l : List UInt8} {m n t a a' : Nat} {fr fr' : ByteArray} {xs : List It} (h1 : rdIts l m a fr = some (xs, a', fr')) (h2 : rdIts l n a' fr' = none) (ht : m + n ≤ t) : rdIts l t a fr = none := by
  obtain ⟨k, rfl⟩ : ∃ k, t = m + (n + k) := ⟨t - m - n, by omega⟩
  rw [rdIts_add, h1]
  simp only
  rw [rdIts_add, h2]
theorem rd_more {l : List UInt8} {m n a a' : Nat} {fr fr' : ByteArray} {xs : List It} {q : Option (List It × Nat × ByteArray)} {ys : List It} {r : Nat × ByteArray} (h1 : rdIts l m a fr = some (xs, a', fr')) (h2 : rdIts l n a' fr' = q) (hq : q = some (ys, r)) : rdIts l (m + n) a fr = some (xs ++ ys, r) := by
  subst hq
  rw [rdIts_add, h1]
  simp only
  rw [h2]
/-- Blocks of kids. -/
def KS (w wr : World) (vi vk : Value) (g : Nat) : Prop := w.heap.size + 2 ≤ g ∧ g < wr.heap.size ∧ vi.ownBlock ≠ some g ∧ vk.ownBlock ≠ some g
/-- A node that is being read. -/
structure NR (w wr : World) (r : Nat) (v : Value) (l : List UInt8) (d : Nat) (its : List It) (kids : List (BT d)) (a : Nat) (fr : ByteArray) (vi vk : Value) (ks : List (Value × Value)) : Prop where
  frp : FrP r w wr
  rs : RS2 wr r v l a fr
  rl : r < w.heap.size
  res : NV wr w.heap.size (.slice none 0 0) (.slice none 0 0)
  var : NV wr (w.heap.size + 1) vi vk
  size : w.heap.size + 2 ≤ wr.heap.size
  iown : wr.ownsRow (w.heap.size + 2) 54 2 vi its.length (c2 (its.map itV))
  kown : wr.ownsRow (w.heap.size + 2) 48 2 vk kids.length (c2 ks)
  kone : One2 ks
  kat : KidsAt wr (KS w wr vi vk) d kids ks
  apart : ∀ g, vi.ownBlock = some g → vk.ownBlock ≠ some g
theorem own_keep {w w' : World} {B n sz : Nat} {T : TypeId} {v : Value} {xs : List Value} (h : w.ownsRow B T sz v n xs) (hk : ∀ g, v.ownBlock = some g → g < w.heap.size → w'.heap[g]? = w.heap[g]?) : w'.ownsRow B T sz v n xs := by
  obtain ⟨h1, h2 | ⟨g, k, cur, rfl, hB, hc, q⟩⟩ := h
  · exact ⟨h1, .inl h2⟩
  · exact ⟨h1, .inr ⟨g, k, cur, rfl, hB, (hk g rfl (Array.getElem?_eq_some_iff.1 hc).1).trans hc, q⟩⟩
theorem own_lt {w : World} {B n sz : Nat} {T : TypeId} {v : Value} {xs : List Value} (h : w.ownsRow B T sz v n xs) : ∀ g, v.ownBlock = some g → B ≤ g ∧ g < w.heap.size := by
  intro g hg
  obtain ⟨h1, ⟨rfl, h2⟩ | ⟨g', k, cur, rfl, hB, hc, q⟩⟩ := h
  · cases hg
  · cases hg
    exact ⟨hB, (Array.getElem?_eq_some_iff.1 hc).1⟩
section
variable {w wr W : World} {r : Nat} {v : Value} {l : List UInt8} {d : Nat} {its : List It} {kids : List (BT d)} {a a' : Nat} {fr fr' : ByteArray} {vi vk : Value} {ks : List (Value × Value)}
theorem NR.move (h : NR w wr r v l d its kids a fr vi vk ks) (hf : FrP r wr W) (hr : RS2 W r v l a' fr') : NR w W r v l d its kids a' fr' vi vk ks := by
  have hk : ∀ g, g < wr.heap.size → w.heap.size ≤ g → W.heap[g]? = wr.heap[g]? := fun g hg hw => hf.2.2.2.2 g hg (by have := h.rl; omega)
  refine ⟨h.frp.trans hf, hr, h.rl, (hk _ (blk_lt h.res) (Nat.le_refl _)).trans h.res, (hk _ (blk_lt h.var) (by omega)).trans h.var, Nat.le_trans h.size hf.2.2.2.1, own_keep h.iown (fun g hg hl => hk g hl (by have := (own_lt h.iown g hg).1; omega)), own_keep h.kown (fun g hg hl => hk g hl (by have := (own_lt h.kown g hg).1; omega)), h.kone, ?_, h.apart⟩
  exact (h.kat.keep hf.2.2.2.1 (fun g hg hl => hk g hl (by have := hg.1; omega))).mono (fun g hg => ⟨hg.1, Nat.lt_of_lt_of_le hg.2.1 hf.2.2.2.1, hg.2.2⟩)
theorem NR.below (h : NR w wr r v l d its kids a fr vi vk ks) (hb : Below wr.heap.size wr W) : NR w W r v l d its kids a fr vi vk ks := h.move (FrP.of_below hb) (h.rs.below hb)
/-- RS2 where neither the reader nor the bytes nor errors' variable turn. -/
theorem RS2.keep {w' : World} (h : RS2 wr r v l a fr) (hz : wr.heap.size ≤ w'.heap.size) (hk : ∀ g, g < w.heap.size → w'.heap[g]? = wr.heap[g]?) (hr : r < w.heap.size) (hb : ∀ b off n c, v = .slice (some ⟨b, off, none⟩) n c → b < w.heap.size) (hE : 0 < w.heap.size) : RS2 w' r v l a fr := by
  obtain ⟨y1, y2, y3, y4, y5, y6⟩ := h
  refine ⟨(hk r hr).trans y1, ?_, y3, y4, ?_, y6⟩
  · obtain h | ⟨b, off, cap, rfl, h2, h3, h4, h5, h6⟩ := y2
    · exact .inl h
    · exact .inr ⟨b, off, cap, rfl, h2, h3, h4, Nat.lt_of_lt_of_le h5 hz, fun i hi => (World.cell?_of_block (hk b (hb b off _ _ rfl))).trans (h6 i hi)⟩
  · unfold ET
    rw [World.cell?_of_block (a := ⟨0, 0, none⟩) (hk _ hE)]; exact y5
/-- What came ahead of the call: where the bytes and errors' variable lie. -/
def Old2 (w : World) (v : Value) : Prop := (∀ b off n c, v = .slice (some ⟨b, off, none⟩) n c → b < w.heap.size) ∧ 0 < w.heap.size
/-- An item more. -/
theorem NR.item {x : It} {W' : World} {vi' : Value} (h : NR w wr r v l d its kids a fr vi vk ks) (ho : Old2 w v) (hown : W'.ownsRow (w.heap.size + 2) 54 2 vi' (its.length + 1) (c2 (its.map itV) ++ [.string x.1, .string x.2])) (hg : wr.grownBy W' vi.ownBlock) (hat : vi'.ownBlock = vi.ownBlock ∨ vi'.ownBlock = some wr.heap.size) :
    NR w (W'.setCell ⟨w.heap.size + 1, 0, none⟩ vi') r v l d (its ++ [x]) kids a fr vi' vk ks := by
  have hset : ∀ g, g ≠ w.heap.size + 1 → (W'.setCell ⟨w.heap.size + 1, 0, none⟩ vi').heap[g]? = W'.heap[g]? := fun g hg => Below.heap_setCell W' ⟨w.heap.size + 1, 0, none⟩ _ g hg
  have hiw : ∀ g, vi.ownBlock = some g → w.heap.size + 2 ≤ g := fun g hg => (own_lt h.iown g hg).1
  have hk : ∀ g, g < wr.heap.size → vi.ownBlock ≠ some g → g ≠ w.heap.size + 1 → (W'.setCell ⟨w.heap.size + 1, 0, none⟩ vi').heap[g]? = wr.heap[g]? := fun g hl hn hv => (hset g hv).trans (hg.block g hl (fun e => hn e.symm))
  have hz : (W'.setCell ⟨w.heap.size + 1, 0, none⟩ vi').heap.size = W'.heap.size := by simp
  have hzz := hg.size
  have hws := h.size
  have hlow : ∀ g, g < w.heap.size + 1 → (W'.setCell ⟨w.heap.size + 1, 0, none⟩ vi').heap[g]? = wr.heap[g]? := fun g hl => hk g (by omega) (fun e => by have := hiw g e; omega) (by omega)
  have hvar : NV W' (w.heap.size + 1) vi vk := (hg.block _ (blk_lt h.var) (fun e => by have := hiw _ e.symm; omega)).trans h.var
  refine ⟨?_, h.rs.keep (w := w) (by omega) (fun g hl => hlow g (by omega)) h.rl ho.1 ho.2, h.rl, (hlow _ (by omega)).trans h.res, (heap_set_at hvar _ _).trans rfl, by omega, ?_, ?_, h.kone, ?_, ?_⟩
  · exact ⟨hg.os.trans h.frp.1, hg.tape.trans h.frp.2.1, hg.output.trans h.frp.2.2.1, by have := h.frp.2.2.2.1; omega, fun g hl hr => (hlow g (by omega)).trans (h.frp.2.2.2.2 g hl hr)⟩
  · have e1 : (its ++ [x]).length = its.length + 1 := by simp
    have e2 : c2 ((its ++ [x]).map itV) = c2 (its.map itV) ++ [.string x.1, .string x.2] := by rw [List.map_append, c2_app]; rfl
    rw [e1, e2]
    exact own_keep hown (fun g hg' hl => hset g (by have := (own_lt hown g hg').1; omega))
  · exact own_keep h.kown (fun g hg' hl => hk g hl (fun e => h.apart g e hg') (by have := (own_lt h.kown g hg').1; omega))
  · refine (h.kat.keep (by omega) (fun g hg' hl => hk g hl hg'.2.2.1 (by have := hg'.1; omega))).mono (fun g hg' => ⟨hg'.1, by have := hg'.2.1; omega, ?_, hg'.2.2.2⟩)
    rcases hat with e | e
    · rw [e]; exact hg'.2.2.1
    · rw [e]; intro h'; injection h' with h'; have := hg'.2.1; omega
  · intro g hg' hv
    rcases hat with e | e
    · rw [e] at hg'; exact h.apart g hg' hv
    · rw [e] at hg'; injection hg' with hg'; have := (own_lt h.kown g hv).2; omega
end
/-- A kid more. -/
theorem NR.kid {w wr W' : World} {r : Nat} {v : Value} {l : List UInt8} {d : Nat} {its : List It} {kids : List (BT (d + 1))} {a : Nat} {fr : ByteArray} {vi vk vk' ki kk : Value} {ks : List (Value × Value)} {k : BT (d + 1)} (h : NR w wr r v l (d + 1) its kids a fr vi vk ks) (ho : Old2 w v) (hkid : NodeAt wr (KS w wr vi vk) d k ki kk) (hone : ki.oneCell' = true ∧ kk.oneCell' = true) (hown : W'.ownsRow (w.heap.size + 2) 48 2 vk' (kids.length + 1) (c2 ks ++ [ki, kk])) (hg : wr.grownBy W' vk.ownBlock) (hat : vk'.ownBlock = vk.ownBlock ∨ vk'.ownBlock = some wr.heap.size) :
    NR w (W'.setCell ⟨w.heap.size + 1, 1, none⟩ vk') r v l (d + 1) its (kids ++ [k]) a fr vi vk' (ks ++ [(ki, kk)]) := by
  have hset : ∀ g, g ≠ w.heap.size + 1 → (W'.setCell ⟨w.heap.size + 1, 1, none⟩ vk').heap[g]? = W'.heap[g]? := fun g hg => Below.heap_setCell W' ⟨w.heap.size + 1, 1, none⟩ _ g hg
  have hiw : ∀ g, vk.ownBlock = some g → w.heap.size + 2 ≤ g := fun g hg => (own_lt h.kown g hg).1
  have hk : ∀ g, g < wr.heap.size → vk.ownBlock ≠ some g → g ≠ w.heap.size + 1 → (W'.setCell ⟨w.heap.size + 1, 1, none⟩ vk').heap[g]? = wr.heap[g]? := fun g hl hn hv => (hset g hv).trans (hg.block g hl (fun e => hn e.symm))
  have hz : (W'.setCell ⟨w.heap.size + 1, 1, none⟩ vk').heap.size = W'.heap.size := by simp
  have hzz := hg.size
  have hws := h.size
  have hlow : ∀ g, g < w.heap.size + 1 → (W'.setCell ⟨w.heap.size + 1, 1, none⟩ vk').heap[g]? = wr.heap[g]? := fun g hl => hk g (by omega) (fun e => by have := hiw g e; omega) (by omega)
  have hvar : NV W' (w.heap.size + 1) vi vk := (hg.block _ (blk_lt h.var) (fun e => by have := hiw _ e.symm; omega)).trans h.var
  have hmono : ∀ g, KS w wr vi vk g → KS w (W'.setCell ⟨w.heap.size + 1, 1, none⟩ vk') vi vk' g := fun g hg' => ⟨hg'.1, by have := hg'.2.1; omega, hg'.2.2.1, by
    rcases hat with e | e
    · rw [e]; exact hg'.2.2.2
    · rw [e]; intro h'; injection h' with h'; have := hg'.2.1; omega⟩
  have hkeep : ∀ g, KS w wr vi vk g → g < wr.heap.size → (W'.setCell ⟨w.heap.size + 1, 1, none⟩ vk').heap[g]? = wr.heap[g]? := fun g hg' hl => hk g hl hg'.2.2.2 (by have := hg'.1; omega)
  refine ⟨?_, h.rs.keep (w := w) (by omega) (fun g hl => hlow g (by omega)) h.rl ho.1 ho.2, h.rl, (hlow _ (by omega)).trans h.res, (heap_set_at hvar _ _).trans rfl, by omega, ?_, ?_, ?_, ?_, ?_⟩
  · exact ⟨hg.os.trans h.frp.1, hg.tape.trans h.frp.2.1, hg.output.trans h.frp.2.2.1, by have := h.frp.2.2.2.1; omega, fun g hl hr => (hlow g (by omega)).trans (h.frp.2.2.2.2 g hl hr)⟩
  · exact own_keep h.iown (fun g hg' hl => hk g hl (h.apart g hg') (by have := (own_lt h.iown g hg').1; omega))
  · have e1 : (kids ++ [k]).length = kids.length + 1 := by simp
    have e2 : c2 (ks ++ [(ki, kk)]) = c2 ks ++ [ki, kk] := by rw [c2_app]; rfl
    rw [e1, e2]
    exact own_keep hown (fun g hg' hl => hset g (by have := (own_lt hown g hg').1; omega))
  · exact h.kone.app (fun x hx => by rw [List.mem_singleton.1 hx]; exact hone)
  · exact ((h.kat.keep (by omega) hkeep).mono hmono).app (KidsAt.one ((hkid.keep (by omega) hkeep).mono hmono))
  · intro g hg' hv
    rcases hat with e | e
    · rw [e] at hv; exact h.apart g hg' hv
    · rw [e] at hv; injection hv with hv; have := (own_lt h.iown g hg').2; omega
theorem two_new (w : World) (x y : Value) (T : TypeId) : ∀ j u, [x, y][j]? = some u → (w.alloc (.cells #[x, y] T)).cell? ((⟨w.heap.size, 0, none⟩ : Addr).add j) = some u := by
  intro j u hj
  match j, hj with
  | 0, hj => simp at hj; subst hj; simp [Addr.add]
  | 1, hj => simp at hj; subst hj; simp [Addr.add]
  | n + 2, hj => simp at hj
/-- What node tells: pl, how many places it has. -/
def NodP (w : World) (r : Nat) (v : Value) (l : List UInt8) (d gaps pl a : Nat) (fr : ByteArray) (e : Ending) (w' : World) : Prop :=
  FrP r w w' ∧ ((∃ xs a' fr' its kids va n k vb n' k', rdIts l (gaps - 1) a fr = some (xs, a', fr') ∧ e = .returned (.tuple #[.agg #[.slice va n k, .slice vb n' k'], .nilIface]) ∧ NodeAt w' (fun g => w.heap.size ≤ g) d (BT.mk its kids) (.slice va n k) (.slice vb n' k') ∧ Shp d (BT.mk its kids) ∧ its.length + 1 = pl ∧ flat d (BT.mk its kids) = xs ∧ RS2 w' r v l a' fr') ∨ (rdIts l (gaps - 1) a fr = none ∧ ∃ T x m, e = .returned (.tuple #[.agg #[.slice none 0 0, .slice none 0 0], .iface T x]) ∧ Chn w' 20 (m + 1) (.iface T x)))
section
variable {w W : World} {r : Nat} {v : Value} {l : List UInt8} {d gaps pl a a' : Nat} {fr fr' : ByteArray}
/-- An error is told. -/
theorem NR.bad {its : List It} {kids : List (BT d)} {vi vk : Value} {ks : List (Value × Value)} {T : TypeId} {x : Value} {m a2 D : Nat} {fr2 : ByteArray} (h : NR w W r v l d its kids a2 fr2 vi vk ks) (hc : Chn W 20 (m + 1) (.iface T x)) (hn : rdIts l (gaps - 1) a fr = none) : NodP w r v l D gaps pl a fr (.returned (.tuple #[.agg #[.slice none 0 0, .slice none 0 0], .iface T x])) ((W.setCell ⟨w.heap.size, 0, none⟩ (.slice none 0 0)).setCell ⟨w.heap.size, 1, none⟩ (.slice none 0 0)) :=
  ⟨frp_new h.frp, .inr ⟨hn, T, x, m, rfl, hc.varN h.res (fun _ _ h => by cases h)⟩⟩
/-- A node is told. -/
theorem NR.good {its : List It} {kids : List (BT d)} {va vb : Option Addr} {n k n' k' : Nat} {ks : List (Value × Value)} {xs : List It} (h : NR w W r v l d its kids a' fr' (.slice va n k) (.slice vb n' k') ks) (ho : Old2 w v) (hs : Shp d (BT.mk its kids)) (hp : its.length + 1 = pl) (hf : flat d (BT.mk its kids) = xs) (hr : rdIts l (gaps - 1) a fr = some (xs, a', fr')) : NodP w r v l d gaps pl a fr (.returned (.tuple #[.agg #[.slice va n k, .slice vb n' k'], .nilIface])) ((W.setCell ⟨w.heap.size, 0, none⟩ (.slice va n k)).setCell ⟨w.heap.size, 1, none⟩ (.slice vb n' k')) := by
  have hws := h.size
  refine ⟨frp_new h.frp, .inl ⟨xs, a', fr', its, kids, va, n, k, vb, n', k', hr, rfl, ?_, hs, hp, hf, h.rs.keep (w := w) (by simp) (fun g hg => set2_ne (by omega)) h.rl ho.1 ho.2⟩⟩
  refine node_iff.2 ⟨⟨?_, ?_⟩, ks, ⟨?_, ?_⟩, ?_⟩
  · exact (R2.own h.iown (by simp) (one_it _)).keep (by simp) (fun g hg => set2_ne (by have := own_in h.iown g hg; omega))
  · exact fun g hg => by have := own_in h.iown g hg; show w.heap.size ≤ g; omega
  · exact (R2.own h.kown (by rw [h.kat.len]) h.kone).keep (by simp) (fun g hg => set2_ne (by have := own_in h.kown g hg; omega))
  · exact fun g hg => by have := own_in h.kown g hg; show w.heap.size ≤ g; omega
  · exact (h.kat.keep (by simp) (fun g hg _ => set2_ne (by have := hg.1; omega))).mono (fun g hg => by have := hg.1; show w.heap.size ≤ g; omega)
/-- The beginning. -/
theorem NR.start (h : RS2 w r v l a fr) (hW : W = (w.alloc (.cells #[.slice none 0 0, .slice none 0 0] 48)).alloc (.cells #[.slice none 0 0, .slice none 0 0] 48)) : NR w W r v l d [] [] a fr (.slice none 0 0) (.slice none 0 0) [] := by
  have hb : Below w.heap.size w W := by rw [hW]; exact ((Below.refl _ _).alloc (Nat.le_refl _) _).alloc (by simp) _
  refine ⟨FrP.of_below hb, h.below hb, blk_lt h.1, ?_, ?_, by rw [hW, World.size_alloc, World.size_alloc]; omega, World.ownsRow_nil _ _ _ _, World.ownsRow_nil _ _ _ _, (fun x hx => by cases hx), ?_, (fun g hg => by cases hg)⟩
  · rw [hW]; exact (NV.new w _ _).below ((Below.refl _ _).alloc (Nat.le_refl _) _)
  · have := NV.new (w.alloc (.cells #[.slice none 0 0, .slice none 0 0] 48)) (.slice none 0 0) (.slice none 0 0)
    rw [World.size_alloc] at this
    rw [hW]; exact this
  · cases d with
    | zero => exact ⟨rfl, rfl⟩
    | succ d => exact ⟨rfl, fun i x k hx _ => by simp at hx⟩
end
end Go.Proofs.YtmahkhpmaenkhaaDoor
