/- The reader of a tree's bytes: node. -/
import Derived.Test.YtlmjmhpdpgeplaaGreatDoorTItem
namespace Go.Proofs.YtlmjmhpdpgeplaaGreatDoor
open Go.RowKit Go.Lib

theorem rd_fail {l : List UInt8} {m n t a a' : Nat} {fr fr' : ByteArray} {xs : List It} (h1 : rdIts l m a fr = some (xs, a', fr')) (h2 : rdIts l n a' fr' = none) (ht : m + n ≤ t) : rdIts l t a fr = none := by
  obtain ⟨k, rfl⟩ : ∃ k, t = m + (n + k) := ⟨t - m - n, by omega⟩
  rw [rdIts_add, h1]
  simp only
  rw [rdIts_add, h2]
theorem rd_more {l : List UInt8} {m n a a' : Nat} {fr fr' : ByteArray} {xs : List It} {q : Option (List It × Nat × ByteArray)} {ys : List It} {r : Nat × ByteArray} (h1 : rdIts l m a fr = some (xs, a', fr')) (h2 : rdIts l n a' fr' = q) (hq : q = some (ys, r)) : rdIts l (m + n) a fr = some (xs ++ ys, r) := by
  subst hq
  rw [rdIts_add, h1]
  simp only
  rw [h2]
/-- Blocks of kids. -/
def KS (w wr : World) (vi vk : Value) (g : Nat) : Prop := w.heap.size + 2 ≤ g ∧ g < wr.heap.size ∧ vi.ownBlock ≠ some g ∧ vk.ownBlock ≠ some g
/-- A node that is being read. -/
structure NR (w wr : World) (r : Nat) (v : Value) (l : List UInt8) (d : Nat) (its : List It) (kids : List (BT d)) (a : Nat) (fr : ByteArray) (vi vk : Value) (ks : List (Value × Value)) : Prop where
  frp : FrP r w wr
  rs : RS2 wr r v l a fr
  rl : r < w.heap.size
  res : NV wr w.heap.size (.slice none 0 0) (.slice none 0 0)
  var : NV wr (w.heap.size + 1) vi vk
  size : w.heap.size + 2 ≤ wr.heap.size
  iown : wr.ownsRow (w.heap.size + 2) 62 2 vi its.length (c2 (its.map itV))
  kown : wr.ownsRow (w.heap.size + 2) 54 2 vk kids.length (c2 ks)
  kone : One2 ks
  kat : KidsAt wr (KS w wr vi vk) d kids ks
  apart : ∀ g, vi.ownBlock = some g → vk.ownBlock ≠ some g
theorem own_keep {w w' : World} {B n sz : Nat} {T : TypeId} {v : Value} {xs : List Value} (h : w.ownsRow B T sz v n xs) (hk : ∀ g, v.ownBlock = some g → g < w.heap.size → w'.heap[g]? = w.heap[g]?) : w'.ownsRow B T sz v n xs := by
  obtain ⟨h1, h2 | ⟨g, k, cur, rfl, hB, hc, q⟩⟩ := h
  · exact ⟨h1, .inl h2⟩
  · exact ⟨h1, .inr ⟨g, k, cur, rfl, hB, (hk g rfl (Array.getElem?_eq_some_iff.1 hc).1).trans hc, q⟩⟩
theorem own_lt {w : World} {B n sz : Nat} {T : TypeId} {v : Value} {xs : List Value} (h : w.ownsRow B T sz v n xs) : ∀ g, v.ownBlock = some g → B ≤ g ∧ g < w.heap.size := by
  intro g hg
  obtain ⟨h1, ⟨rfl, h2⟩ | ⟨g', k, cur, rfl, hB, hc, q⟩⟩ := h
  · cases hg
  · cases hg
    exact ⟨hB, (Array.getElem?_eq_some_iff.1 hc).1⟩
section
variable {w wr W : World} {r : Nat} {v : Value} {l : List UInt8} {d : Nat} {its : List It} {kids : List (BT d)} {a a' : Nat} {fr fr' : ByteArray} {vi vk : Value} {ks : List (Value × Value)}
theorem NR.move (h : NR w wr r v l d its kids a fr vi vk ks) (hf : FrP r wr W) (hr : RS2 W r v l a' fr') : NR w W r v l d its kids a' fr' vi vk ks := by
  have hk : ∀ g, g < wr.heap.size → w.heap.size ≤ g → W.heap[g]? = wr.heap[g]? := fun g hg hw => hf.2.2.2.2 g hg (by have := h.rl; omega)
  refine ⟨h.frp.trans hf, hr, h.rl, (hk _ (blk_lt h.res) (Nat.le_refl _)).trans h.res, (hk _ (blk_lt h.var) (by omega)).trans h.var, Nat.le_trans h.size hf.2.2.2.1, own_keep h.iown (fun g hg hl => hk g hl (by have := (own_lt h.iown g hg).1; omega)), own_keep h.kown (fun g hg hl => hk g hl (by have := (own_lt h.kown g hg).1; omega)), h.kone, ?_, h.apart⟩
  exact (h.kat.keep hf.2.2.2.1 (fun g hg hl => hk g hl (by have := hg.1; omega))).mono (fun g hg => ⟨hg.1, Nat.lt_of_lt_of_le hg.2.1 hf.2.2.2.1, hg.2.2⟩)
theorem NR.below (h : NR w wr r v l d its kids a fr vi vk ks) (hb : Below wr.heap.size wr W) : NR w W r v l d its kids a fr vi vk ks := h.move (FrP.of_below hb) (h.rs.below hb)
/-- RS2 where neither the reader nor the bytes nor errors' variable turn. -/
theorem RS2.keep {w' : World} (h : RS2 wr r v l a fr) (hz : wr.heap.size ≤ w'.heap.size) (hk : ∀ g, g < w.heap.size → w'.heap[g]? = wr.heap[g]?) (hr : r < w.heap.size) (hb : ∀ b off n c, v = .slice (some ⟨b, off, none⟩) n c → b < w.heap.size) (hE : 0 < w.heap.size) : RS2 w' r v l a fr := by
  obtain ⟨y1, y2, y3, y4, y5, y6⟩ := h
  refine ⟨(hk r hr).trans y1, ?_, y3, y4, ?_, y6⟩
  · obtain h | ⟨b, off, cap, rfl, h2, h3, h4, h5, h6⟩ := y2
    · exact .inl h
    · exact .inr ⟨b, off, cap, rfl, h2, h3, h4, Nat.lt_of_lt_of_le h5 hz, fun i hi => (World.cell?_of_block (hk b (hb b off _ _ rfl))).trans (h6 i hi)⟩
  · unfold ET
    rw [World.cell?_of_block (a := ⟨0, 0, none⟩) (hk _ hE)]; exact y5
/-- What came ahead of the call: where the bytes and errors' variable lie. -/
def Old2 (w : World) (v : Value) : Prop := (∀ b off n c, v = .slice (some ⟨b, off, none⟩) n c → b < w.heap.size) ∧ 0 < w.heap.size
/-- An item more. -/
theorem NR.item {x : It} {W' : World} {vi' : Value} (h : NR w wr r v l d its kids a fr vi vk ks) (ho : Old2 w v) (hown : W'.ownsRow (w.heap.size + 2) 62 2 vi' (its.length + 1) (c2 (its.map itV) ++ [.string x.1, .string x.2])) (hg : wr.grownBy W' vi.ownBlock) (hat : vi'.ownBlock = vi.ownBlock ∨ vi'.ownBlock = some wr.heap.size) :
    NR w (W'.setCell ⟨w.heap.size + 1, 0, none⟩ vi') r v l d (its ++ [x]) kids a fr vi' vk ks := by
  have hset : ∀ g, g ≠ w.heap.size + 1 → (W'.setCell ⟨w.heap.size + 1, 0, none⟩ vi').heap[g]? = W'.heap[g]? := fun g hg => Below.heap_setCell W' ⟨w.heap.size + 1, 0, none⟩ _ g hg
  have hiw : ∀ g, vi.ownBlock = some g → w.heap.size + 2 ≤ g := fun g hg => (own_lt h.iown g hg).1
  have hk : ∀ g, g < wr.heap.size → vi.ownBlock ≠ some g → g ≠ w.heap.size + 1 → (W'.setCell ⟨w.heap.size + 1, 0, none⟩ vi').heap[g]? = wr.heap[g]? := fun g hl hn hv => (hset g hv).trans (hg.block g hl (fun e => hn e.symm))
  have hz : (W'.setCell ⟨w.heap.size + 1, 0, none⟩ vi').heap.size = W'.heap.size := by simp
  have hzz := hg.size
  have hws := h.size
  have hlow : ∀ g, g < w.heap.size + 1 → (W'.setCell ⟨w.heap.size + 1, 0, none⟩ vi').heap[g]? = wr.heap[g]? := fun g hl => hk g (by omega) (fun e => by have := hiw g e; omega) (by omega)
  have hvar : NV W' (w.heap.size + 1) vi vk := (hg.block _ (blk_lt h.var) (fun e => by have := hiw _ e.symm; omega)).trans h.var
  refine ⟨?_, h.rs.keep (w := w) (by omega) (fun g hl => hlow g (by omega)) h.rl ho.1 ho.2, h.rl, (hlow _ (by omega)).trans h.res, (heap_set_at hvar _ _).trans rfl, by omega, ?_, ?_, h.kone, ?_, ?_⟩
  · exact ⟨hg.os.trans h.frp.1, hg.tape.trans h.frp.2.1, hg.output.trans h.frp.2.2.1, by have := h.frp.2.2.2.1; omega, fun g hl hr => (hlow g (by omega)).trans (h.frp.2.2.2.2 g hl hr)⟩
  · have e1 : (its ++ [x]).length = its.length + 1 := by simp
    have e2 : c2 ((its ++ [x]).map itV) = c2 (its.map itV) ++ [.string x.1, .string x.2] := by rw [List.map_append, c2_app]; rfl
    rw [e1, e2]
    exact own_keep hown (fun g hg' hl => hset g (by have := (own_lt hown g hg').1; omega))
  · exact own_keep h.kown (fun g hg' hl => hk g hl (fun e => h.apart g e hg') (by have := (own_lt h.kown g hg').1; omega))
  · refine (h.kat.keep (by omega) (fun g hg' hl => hk g hl hg'.2.2.1 (by have := hg'.1; omega))).mono (fun g hg' => ⟨hg'.1, by have := hg'.2.1; omega, ?_, hg'.2.2.2⟩)
    rcases hat with e | e
    · rw [e]; exact hg'.2.2.1
    · rw [e]; intro h'; injection h' with h'; have := hg'.2.1; omega
  · intro g hg' hv
    rcases hat with e | e
    · rw [e] at hg'; exact h.apart g hg' hv
    · rw [e] at hg'; injection hg' with hg'; have := (own_lt h.kown g hv).2; omega
end
/-- A kid more. -/
theorem NR.kid {w wr W' : World} {r : Nat} {v : Value} {l : List UInt8} {d : Nat} {its : List It} {kids : List (BT (d + 1))} {a : Nat} {fr : ByteArray} {vi vk vk' ki kk : Value} {ks : List (Value × Value)} {k : BT (d + 1)} (h : NR w wr r v l (d + 1) its kids a fr vi vk ks) (ho : Old2 w v) (hkid : NodeAt wr (KS w wr vi vk) d k ki kk) (hone : ki.oneCell' = true ∧ kk.oneCell' = true) (hown : W'.ownsRow (w.heap.size + 2) 54 2 vk' (kids.length + 1) (c2 ks ++ [ki, kk])) (hg : wr.grownBy W' vk.ownBlock) (hat : vk'.ownBlock = vk.ownBlock ∨ vk'.ownBlock = some wr.heap.size) :
    NR w (W'.setCell ⟨w.heap.size + 1, 1, none⟩ vk') r v l (d + 1) its (kids ++ [k]) a fr vi vk' (ks ++ [(ki, kk)]) := by
  have hset : ∀ g, g ≠ w.heap.size + 1 → (W'.setCell ⟨w.heap.size + 1, 1, none⟩ vk').heap[g]? = W'.heap[g]? := fun g hg => Below.heap_setCell W' ⟨w.heap.size + 1, 1, none⟩ _ g hg
  have hiw : ∀ g, vk.ownBlock = some g → w.heap.size + 2 ≤ g := fun g hg => (own_lt h.kown g hg).1
  have hk : ∀ g, g < wr.heap.size → vk.ownBlock ≠ some g → g ≠ w.heap.size + 1 → (W'.setCell ⟨w.heap.size + 1, 1, none⟩ vk').heap[g]? = wr.heap[g]? := fun g hl hn hv => (hset g hv).trans (hg.block g hl (fun e => hn e.symm))
  have hz : (W'.setCell ⟨w.heap.size + 1, 1, none⟩ vk').heap.size = W'.heap.size := by simp
  have hzz := hg.size
  have hws := h.size
  have hlow : ∀ g, g < w.heap.size + 1 → (W'.setCell ⟨w.heap.size + 1, 1, none⟩ vk').heap[g]? = wr.heap[g]? := fun g hl => hk g (by omega) (fun e => by have := hiw g e; omega) (by omega)
  have hvar : NV W' (w.heap.size + 1) vi vk := (hg.block _ (blk_lt h.var) (fun e => by have := hiw _ e.symm; omega)).trans h.var
  have hmono : ∀ g, KS w wr vi vk g → KS w (W'.setCell ⟨w.heap.size + 1, 1, none⟩ vk') vi vk' g := fun g hg' => ⟨hg'.1, by have := hg'.2.1; omega, hg'.2.2.1, by
    rcases hat with e | e
    · rw [e]; exact hg'.2.2.2
    · rw [e]; intro h'; injection h' with h'; have := hg'.2.1; omega⟩
  have hkeep : ∀ g, KS w wr vi vk g → g < wr.heap.size → (W'.setCell ⟨w.heap.size + 1, 1, none⟩ vk').heap[g]? = wr.heap[g]? := fun g hg' hl => hk g hl hg'.2.2.2 (by have := hg'.1; omega)
  refine ⟨?_, h.rs.keep (w := w) (by omega) (fun g hl => hlow g (by omega)) h.rl ho.1 ho.2, h.rl, (hlow _ (by omega)).trans h.res, (heap_set_at hvar _ _).trans rfl, by omega, ?_, ?_, ?_, ?_, ?_⟩
  · exact ⟨hg.os.trans h.frp.1, hg.tape.trans h.frp.2.1, hg.output.trans h.frp.2.2.1, by have := h.frp.2.2.2.1; omega, fun g hl hr => (hlow g (by omega)).trans (h.frp.2.2.2.2 g hl hr)⟩
  · exact own_keep h.iown (fun g hg' hl => hk g hl (h.apart g hg') (by have := (own_lt h.iown g hg').1; omega))
  · have e1 : (kids ++ [k]).length = kids.length + 1 := by simp
    have e2 : c2 (ks ++ [(ki, kk)]) = c2 ks ++ [ki, kk] := by rw [c2_app]; rfl
    rw [e1, e2]
    exact own_keep hown (fun g hg' hl => hset g (by have := (own_lt hown g hg').1; omega))
  · exact h.kone.app (fun x hx => by rw [List.mem_singleton.1 hx]; exact hone)
  · exact ((h.kat.keep (by omega) hkeep).mono hmono).app (KidsAt.one ((hkid.keep (by omega) hkeep).mono hmono))
  · intro g hg' hv
    rcases hat with e | e
    · rw [e] at hv; exact h.apart g hg' hv
    · rw [e] at hv; injection hv with hv; have := (own_lt h.iown g hg').2; omega
theorem two_new (w : World) (x y : Value) (T : TypeId) : ∀ j u, [x, y][j]? = some u → (w.alloc (.cells #[x, y] T)).cell? ((⟨w.heap.size, 0, none⟩ : Addr).add j) = some u := by
  intro j u hj
  match j, hj with
  | 0, hj => simp at hj; subst hj; simp [Addr.add]
  | 1, hj => simp at hj; subst hj; simp [Addr.add]
  | n + 2, hj => simp at hj
/-- What node tells: pl, how many places it has. -/
def NodP (w : World) (r : Nat) (v : Value) (l : List UInt8) (d gaps pl a : Nat) (fr : ByteArray) (e : Ending) (w' : World) : Prop :=
  FrP r w w' ∧ ((∃ xs a' fr' its kids va n k vb n' k', rdIts l (gaps - 1) a fr = some (xs, a', fr') ∧ e = .returned (.tuple #[.agg #[.slice va n k, .slice vb n' k'], .nilIface]) ∧ NodeAt w' (fun g => w.heap.size ≤ g) d (BT.mk its kids) (.slice va n k) (.slice vb n' k') ∧ Shp d (BT.mk its kids) ∧ its.length + 1 = pl ∧ flat d (BT.mk its kids) = xs ∧ RS2 w' r v l a' fr') ∨ (rdIts l (gaps - 1) a fr = none ∧ ∃ T x m, e = .returned (.tuple #[.agg #[.slice none 0 0, .slice none 0 0], .iface T x]) ∧ Chn w' 20 (m + 1) (.iface T x)))
section
variable {w W : World} {r : Nat} {v : Value} {l : List UInt8} {d gaps pl a a' : Nat} {fr fr' : ByteArray}
/-- An error is told. -/
theorem NR.bad {its : List It} {kids : List (BT d)} {vi vk : Value} {ks : List (Value × Value)} {T : TypeId} {x : Value} {m a2 D : Nat} {fr2 : ByteArray} (h : NR w W r v l d its kids a2 fr2 vi vk ks) (hc : Chn W 20 (m + 1) (.iface T x)) (hn : rdIts l (gaps - 1) a fr = none) : NodP w r v l D gaps pl a fr (.returned (.tuple #[.agg #[.slice none 0 0, .slice none 0 0], .iface T x])) ((W.setCell ⟨w.heap.size, 0, none⟩ (.slice none 0 0)).setCell ⟨w.heap.size, 1, none⟩ (.slice none 0 0)) :=
  ⟨frp_new h.frp, .inr ⟨hn, T, x, m, rfl, hc.varN h.res (fun _ _ h => by cases h)⟩⟩
/-- A node is told. -/
theorem NR.good {its : List It} {kids : List (BT d)} {va vb : Option Addr} {n k n' k' : Nat} {ks : List (Value × Value)} {xs : List It} (h : NR w W r v l d its kids a' fr' (.slice va n k) (.slice vb n' k') ks) (ho : Old2 w v) (hs : Shp d (BT.mk its kids)) (hp : its.length + 1 = pl) (hf : flat d (BT.mk its kids) = xs) (hr : rdIts l (gaps - 1) a fr = some (xs, a', fr')) : NodP w r v l d gaps pl a fr (.returned (.tuple #[.agg #[.slice va n k, .slice vb n' k'], .nilIface])) ((W.setCell ⟨w.heap.size, 0, none⟩ (.slice va n k)).setCell ⟨w.heap.size, 1, none⟩ (.slice vb n' k')) := by
  have hws := h.size
  refine ⟨frp_new h.frp, .inl ⟨xs, a', fr', its, kids, va, n, k, vb, n', k', hr, rfl, ?_, hs, hp, hf, h.rs.keep (w := w) (by simp) (fun g hg => set2_ne (by omega)) h.rl ho.1 ho.2⟩⟩
  refine node_iff.2 ⟨⟨?_, ?_⟩, ks, ⟨?_, ?_⟩, ?_⟩
  · exact (R2.own h.iown (by simp) (one_it _)).keep (by simp) (fun g hg => set2_ne (by have := own_in h.iown g hg; omega))
  · exact fun g hg => by have := own_in h.iown g hg; show w.heap.size ≤ g; omega
  · exact (R2.own h.kown (by rw [h.kat.len]) h.kone).keep (by simp) (fun g hg => set2_ne (by have := own_in h.kown g hg; omega))
  · exact fun g hg => by have := own_in h.kown g hg; show w.heap.size ≤ g; omega
  · exact (h.kat.keep (by simp) (fun g hg _ => set2_ne (by have := hg.1; omega))).mono (fun g hg => by have := hg.1; show w.heap.size ≤ g; omega)
/-- The beginning. -/
theorem NR.start (h : RS2 w r v l a fr) (hW : W = (w.alloc (.cells #[.slice none 0 0, .slice none 0 0] 54)).alloc (.cells #[.slice none 0 0, .slice none 0 0] 54)) : NR w W r v l d [] [] a fr (.slice none 0 0) (.slice none 0 0) [] := by
  have hb : Below w.heap.size w W := by rw [hW]; exact ((Below.refl _ _).alloc (Nat.le_refl _) _).alloc (by simp) _
  refine ⟨FrP.of_below hb, h.below hb, blk_lt h.1, ?_, ?_, by rw [hW, World.size_alloc, World.size_alloc]; omega, World.ownsRow_nil _ _ _ _, World.ownsRow_nil _ _ _ _, (fun x hx => by cases hx), ?_, (fun g hg => by cases hg)⟩
  · rw [hW]; exact (NV.new w _ _).below ((Below.refl _ _).alloc (Nat.le_refl _) _)
  · have := NV.new (w.alloc (.cells #[.slice none 0 0, .slice none 0 0] 54)) (.slice none 0 0) (.slice none 0 0)
    rw [World.size_alloc] at this
    rw [hW]; exact this
  · cases d with
    | zero => exact ⟨rfl, rfl⟩
    | succ d => exact ⟨rfl, fun i x k hx _ => by simp at hx⟩
end
end Go.Proofs.YtlmjmhpdpgeplaaGreatDoor
/- The reader of a tree's bytes: a leaf. -/
namespace Go.Proofs.YtlmjmhpdpgeplaaGreatDoor
open Go.RowKit Go.Lib

section
variable {w : World} {r : Nat} {v : Value} {l : List UInt8} {gaps a : Nat} {fr : ByteArray}
set_option maxHeartbeats 12800000 in
set_option maxRecDepth 100000 in
theorem node_0 (h : RS2 w r v l a fr) (ho : Old2 w v) (h1 : 1 ≤ gaps) (h2 : gaps ≤ 16) :
    Calls Tryz.prog 31 #[.pointer (some ⟨r, 0, none⟩), .int .i64 (gaps : Int), .int .i64 1] w (NodP w r v l 0 gaps gaps a fr) := by
  obtain ⟨i0, hi, hz0, hz1, hz2⟩ := info_parts Tryz.info_item
  obtain ⟨W0, hW0⟩ : ∃ W0, W0 = (w.alloc (.cells #[.slice none 0 0, .slice none 0 0] 54)).alloc (.cells #[.slice none 0 0, .slice none 0 0] 54) := ⟨_, rfl⟩
  have H0 : Hid (NR w W0 r v l 0 [] [] a fr (.slice none 0 0) (.slice none 0 0) []) := NR.start h hW0
  have HO := hide ho
  have hgi : (gaps : Int) ≤ 16 := by omega
  have hg0 : (0 : Int) ≤ (gaps : Int) := by omega
  have HG := hide h1
  clear h ho h1 h2
  go_enter Tryz.func31, Tryz.ntmps31
  go_upto_region 2 with fail
  rw [← hW0]
  clear hW0
  go_wp2_with fail
  go_loopw [22] (fun s22 wr => ∃ (i : Nat) (xs : List It) (a' : Nat) (fr' : ByteArray) (va : Option Addr) (vn k : Nat), s22 = .int .i64 (i : Int) ∧ i ≤ gaps ∧ Hid (NR w wr r v l 0 xs [] a' fr' (.slice va vn k) (.slice none 0 0) [] ∧ rdIts l (i - 1) a fr = some (xs, a', fr') ∧ xs.length = i - 1 ∧ vn = xs.length)) (fun s22 _ => gaps - (RowKit.intOf s22).toNat)
  case atStart => exact ⟨0, [], a, fr, none, 0, 0, rfl, Nat.zero_le _, unhide H0, rfl, rfl, rfl⟩
  case round =>
    clear H0
    obtain ⟨i, xs, a', fr', va, vn, k, rfl, hig, HD⟩ := hrel
    by_cases hlt : i < gaps
    · have hlti : (i : Int) < (gaps : Int) := by omega
      have hwi : IntKind.i64.wrap ((i : Int) + 1) = (i : Int) + 1 := by rw [IntKind.wrap_i64] <;> omega
      by_cases hz : i = 0
      · subst hz
        go_wp2_with fail
        go_roundw
        case rel =>
          obtain ⟨u1, u2, u3, u4⟩ := unhide HD
          exact ⟨1, xs, a', fr', va, vn, k, by simp, by omega, u1, u2, u3, u4⟩
        case measure => simp [RowKit.intOf]; omega
      · have hip : (0 : Int) < (i : Int) := by omega
        have hip2 : ¬ ((i : Int) ≤ 0) := by omega
        obtain ⟨j, hj⟩ : ∃ j, j = i - 1 := ⟨_, rfl⟩
        have hji : (i : Int) - 1 = (j : Int) := by omega
        have hwj : IntKind.i64.wrap (j : Int) = (j : Int) := by rw [IntKind.wrap_i64] <;> omega
        have HIt := hide (item_t (unhide HD).1.rs)
        cases hx : rdIt l a' fr' with
        | none =>
          have HIt2 : Hid (Calls Tryz.prog 46 #[.pointer (some ⟨r, 0, none⟩)] wr fun e w1 => ∃ T x, e = .returned (.tuple #[.agg #[.string ⟨#[]⟩, .string ⟨#[]⟩], .iface T x]) ∧ Hid (∀ W : World, Below w1.heap.size w1 W → Calls Tryz.prog 40 #[.iface T x, .int .i64 (j : Int)] W fun e w2 => ∃ T' x', e = .returned (.iface T' x') ∧ (w2.cell? ⟨w.heap.size, 0, none⟩ = some (.slice none 0 0) ∧ w2.cell? ⟨w.heap.size, 1, none⟩ = some (.slice none 0 0) ∧ w2.frozen? ⟨w.heap.size, 0, none⟩ = false ∧ w2.frozen? ⟨w.heap.size, 1, none⟩ = false) ∧ Hid (NodP w r v l 0 gaps gaps a fr (.returned (.tuple #[.agg #[.slice none 0 0, .slice none 0 0], .iface T' x'])) ((w2.setCell ⟨w.heap.size, 0, none⟩ (.slice none 0 0)).setCell ⟨w.heap.size, 1, none⟩ (.slice none 0 0))))) := by
            refine (unhide HIt).mono ?_
            rintro e w1 ⟨z1, ⟨x, a1, zx, _⟩ | ⟨_, T, x, rfl, z2⟩⟩
            · rw [hx] at zx; cases zx
            · refine ⟨T, x, rfl, fun W hb => ?_⟩
              refine (wrapped_t j (by omega) (z2.below hb)).mono ?_
              rintro e w2 ⟨T', x', rfl, y1, y2⟩
              have hfr : FrP r wr w2 := (z1.trans (FrP.of_below hb)).trans (FrP.of_below y2)
              have hk : ∀ g, g < wr.heap.size → w.heap.size ≤ g → w2.heap[g]? = wr.heap[g]? := fun g hg hw => hfr.2.2.2.2 g hg (by have := (unhide HD).1.rl; omega)
              have hres : NV w2 w.heap.size (.slice none 0 0) (.slice none 0 0) := (hk _ (blk_lt (unhide HD).1.res) (Nat.le_refl _)).trans (unhide HD).1.res
              refine ⟨T', x', rfl, hres.cells, frp_new ((unhide HD).1.frp.trans hfr), .inr ⟨?_, T', x', 1, rfl, y1.varN hres (fun _ _ h => by cases h)⟩⟩
              exact rd_fail (unhide HD).2.1 (n := 1) (by rw [rdIts_one, hx]) (by omega)
          clear HIt HD hx hj
          go_wp2_with (first
            | (go_at_call 46; refine (unhide HIt2).mono ?_; rintro e w1 ⟨T, x, rfl, HWr⟩; clear HIt2)
            | (go_at_call 40; refine (unhide HWr _ ((Below.refl _ _).alloc (Nat.le_refl _) _)).mono ?_; rintro e w2 ⟨T', x', rfl, ⟨r0, r1, g0, g1⟩, HE⟩; clear HWr))
          refine bodyPost_ret (v := .tuple #[.agg #[.slice none 0 0, .slice none 0 0], .iface T' x']) ?_ rfl ?_
          · rw [results_cell_tmp rfl]
            go_simp
          exact unhide HE
        | some p =>
          obtain ⟨x, a1⟩ := p
          have HIt2 : Hid (Calls Tryz.prog 46 #[.pointer (some ⟨r, 0, none⟩)] wr fun e w1 => e = .returned (.tuple #[.agg #[.string x.1, .string x.2], .nilIface]) ∧ Hid (NR w w1 r v l 0 xs [] a1 (behindK x.1) (.slice va vn k) (.slice none 0 0) [])) := by
            refine (unhide HIt).mono ?_
            rintro e w1 ⟨z1, ⟨x', a1', zx, rfl, z2⟩ | ⟨zx, _⟩⟩
            · rw [hx] at zx
              cases zx
              exact ⟨rfl, (unhide HD).1.move z1 z2⟩
            · rw [hx] at zx; cases zx
          have HX : Hid (rdIts l i a fr = some (xs ++ [x], a1, behindK x.1) ∧ xs.length = i - 1 ∧ vn = xs.length) := by
            obtain ⟨u1, u2, u3, u4⟩ := unhide HD
            have := rd_more u2 (n := 1) (by rw [rdIts_one, hx]) rfl
            rw [show i - 1 + 1 = i by omega] at this
            exact ⟨this, u3, u4⟩
          clear HIt HD hx
          go_upto_region 10 with (go_at_call 46; refine (unhide HIt2).mono ?_; rintro e w1 ⟨rfl, H1⟩; clear HIt2)
          obtain ⟨b11, hb11⟩ : ∃ b11, b11 = w1.heap.size := ⟨_, rfl⟩
          obtain ⟨w2, hw2⟩ : ∃ w2, w2 = w1.alloc (.cells #[.string x.1, .string x.2] 62) := ⟨_, rfl⟩
          rw [← hw2, ← hb11]
          have H2 : Hid (NR w w2 r v l 0 xs [] a1 (behindK x.1) (.slice va vn k) (.slice none 0 0) [] ∧ IV w2 b11 x ∧ w.heap.size + 2 ≤ w2.heap.size) := by
            have hb : Below w1.heap.size w1 w2 := by rw [hw2]; exact (Below.refl _ _).alloc (Nat.le_refl _) _
            have hn := (unhide H1).below hb
            exact ⟨hn, by rw [hw2, hb11]; exact heap_alloc_new _ _, hn.size⟩
          clear hw2 hb11 H1
          obtain ⟨c0, c1, f0, f1⟩ := (unhide H2).1.var.cells
          have d0 : w2.cell? ⟨b11, 0, none⟩ = some (.string x.1) := (unhide H2).2.1.cells.1
          have d1 : w2.cell? ⟨b11, 1, none⟩ = some (.string x.2) := (unhide H2).2.1.cells.2
          have hbl : b11 < w2.heap.size := blk_lt (unhide H2).2.1
          have hvl : w.heap.size + 1 < w2.heap.size := by have := (unhide H2).2.2; omega
          have HA : Hid (NR w (w2.alloc (.cells #[.string x.1, .string x.2] 62)) r v l 0 xs [] a1 (behindK x.1) (.slice va vn k) (.slice none 0 0) []) := (unhide H2).1.below ((Below.refl _ _).alloc (Nat.le_refl _) _)
          have hown : (w2.alloc (.cells #[.string x.1, .string x.2] 62)).ownsRow (w.heap.size + 2) 62 2 (.slice va vn k) vn (c2 (xs.map itV)) := by rw [(unhide HX).2.2]; have := (unhide HA).iown; rw [(unhide HX).2.2] at this; exact this
          have hvn : vn ≤ 1000 := by have := (unhide HX).2.1; have := (unhide HX).2.2; omega
          go_wp2_with (at_builtin; refine wpList_append_own_at _ rfl (.tmp 40) (.tmp 42) 51 rfl (w.heap.size + 2) 62 i0 _ 2 32 Tryz.underlying51 hi hz0 hz1 hz2 rfl (by decide) _ _ _ rfl hown ⟨w2.heap.size, 0, none⟩ 1 1 [.string x.1, .string x.2] rfl rfl (two_new _ _ _ _) (fun u hu => by simp at hu; rcases hu with rfl | rfl <;> rfl) (by unfold maxLen; omega) (by omega) (by simp; omega) ?_)
          intro v3 w3 hown3 hg3 _ hat3
          obtain ⟨va3, k3, rfl⟩ := own_sl hown3
          have HE : Hid (NR w (w3.setCell ⟨w.heap.size + 1, 0, none⟩ (.slice va3 (vn + 1) k3)) r v l 0 (xs ++ [x]) [] a1 (behindK x.1) (.slice va3 (vn + 1) k3) (.slice none 0 0) []) := by
            refine (unhide HA).item (unhide HO) ?_ hg3 (by rw [World.size_alloc]; exact hat3)
            rw [← (unhide HX).2.2]
            exact hown3
          have c5 : w3.cell? ⟨w.heap.size + 1, 0, none⟩ = some (.slice va vn k) ∧ w3.frozen? ⟨w.heap.size + 1, 0, none⟩ = false := by
            have hv : NV w3 (w.heap.size + 1) (.slice va vn k) (.slice none 0 0) := (hg3.block _ (blk_lt (unhide HA).var) (fun e => by have := (own_lt hown _ e.symm).1; omega)).trans (unhide HA).var
            exact ⟨hv.cells.1, hv.cells.2.2.1⟩
          obtain ⟨c5, f5⟩ := c5
          clear hown hown3 hg3 hat3 HA H2 c0 c1 f0 f1 d0 d1
          go_wp2_with fail
          go_roundw
          case rel =>
            refine ⟨i + 1, xs ++ [x], a1, behindK x.1, va3, vn + 1, k3, by simp, by omega, unhide HE, ?_, ?_, ?_⟩
            · exact (unhide HX).1
            · have := (unhide HX).2.1; simp; omega
            · have := (unhide HX).2.2; simp; omega
          case measure => simp [RowKit.intOf]; omega
    · have hlti : ¬ ((i : Int) < (gaps : Int)) := by omega
      obtain ⟨u1, u2, u3, u4⟩ := unhide HD
      have hie : i = gaps := by omega
      have HE : Hid (NodP w r v l 0 gaps gaps a fr (.returned (.tuple #[.agg #[.slice va vn k, .slice none 0 0], .nilIface])) ((wr.setCell ⟨w.heap.size, 0, none⟩ (.slice va vn k)).setCell ⟨w.heap.size, 1, none⟩ (.slice none 0 0))) := by
        rw [hie] at u2 u3
        exact u1.good (unhide HO) rfl (by have := unhide HG; omega) rfl u2
      obtain ⟨c0, c1, _, _⟩ := u1.var.cells
      obtain ⟨r0, r1, g0, g1⟩ := u1.res.cells
      clear u1 u2 u3 u4 HD hie
      go_wp2_with fail
      refine bodyPost_ret (v := .tuple #[.agg #[.slice va vn k, .slice none 0 0], .nilIface]) ?_ rfl ?_
      · rw [results_cell_tmp rfl]
        go_simp
      exact unhide HE
end
end Go.Proofs.YtlmjmhpdpgeplaaGreatDoor
