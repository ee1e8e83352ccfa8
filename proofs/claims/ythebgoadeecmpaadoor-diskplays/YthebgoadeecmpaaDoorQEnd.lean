/- Both disks at the end: all falls, and is read. -/
import Derived.Test.YthebgoadeecmpaaDoorQPair2
namespace Go.Proofs.YthebgoadeecmpaaDoor
open Go.RowKit Go.Lib Go.Maps Go.WideMaps

/-- Both disks, their power on; the document's row of files lies at a. -/
def EX (w wr : World) (p r n : Nat) (a : Option Addr) (m cap : Nat) : Prop := ∃ S R F G O Q, Two w wr p r n S R F (.slice a m cap) G O Q ∧ S.off = false ∧ G.length = m

theorem fallF_alike {ks ks' : List Int} (h : ∀ i, ks.getD i 0 = ks'.getD i 0) : ∀ (i : Nat) (F : List Ent), fallF ks i F = fallF ks' i F
  | _, [] => rfl
  | i, e :: r => by
    have := fallF_alike h (i + 1) r
    simp only [fallF, this, h i]

theorem tx_end {w wr : World} {p r n : Nat} {K : Nat → Prop} (h : TX w wr p r n K) :
    ∃ b, wr.cell? ⟨r, 2, none⟩ = some (.bool b) ∧ wr.frozen? ⟨r, 2, none⟩ = false ∧ ∀ (W : World) (kv : Value), Below wr.heap.size (wr.setCell ⟨r, 2, none⟩ (.bool false)) W → KeepAt W (fun k => k < wr.heap.size) kv (List.replicate 100 0) →
      Calls Tryd.prog 20 #[.pointer (some ⟨p, 0, none⟩), .agg #[kv]] W fun e w1 => e = .returned (.tuple #[]) ∧ Hid (Calls Tryd.prog 21 #[.pointer (some ⟨r, 0, none⟩), .agg #[.slice none 0 0]] w1 fun e w2 => e = .returned (.tuple #[]) ∧ ∃ a m cap, Hid (EX w w2 p r n a m cap) ∧ w2.cell? ⟨r, 0, none⟩ = some (.slice a m cap) ∧ m ≤ 64) := by
  obtain ⟨S, R, F, vf, G, O, Q, h, hK⟩ := h
  refine ⟨R.off, h.rx.cells.2.2.1, (cellB h.rx.blk 2).2, fun W kv hb hkv => ?_⟩
  obtain ⟨s1, s2, s3⟩ := rset_at h.rx.blk 2 (.bool false)
  have hrx0 : RX (wr.setCell ⟨r, 2, none⟩ (.bool false)) r { R with off := false } vf G Q := h.rx.set s2 s3 s1
  have hzW : wr.heap.size ≤ W.heap.size := by have := hb.size; omega
  have hrxW : RX W r { R with off := false } vf G Q := hrx0.keep (by omega) (fun k hk => hb.block k (h.rx.lt k hk))
  have hdxW : DX W p S F O := h.dx.fr hzW (fun k hk => (hb.block k (h.dx.lt k hk)).trans (s3 k (fun e => h.oq k hk (e ▸ h.rx.oR))))
  have hkO : KeepAt W O kv (List.replicate 100 0) := by
    obtain ⟨h1, h2 | ⟨b, off, cap, hb', hn, h3⟩⟩ := hkv
    · exact ⟨h1, .inl h2⟩
    · exact ⟨h1, .inr ⟨b, off, cap, hb', fun ho => hn (h.dx.lt b ho), h3⟩⟩
  have hfrW : FrB w.heap.size w W := by
    refine h.fr.trans ⟨hzW, fun k hk hl => ?_, ?_⟩
    · exact (hb.block k hl).trans (s3 k (fun e => by have := h.qB r h.rx.oR; omega))
    · exact ⟨hb.os, hb.tape, hb.output⟩
  refine (dx_crash kv (List.replicate 100 0) hdxW hkO (by simp) (fun e he => by have := okN_len (h.ok e he); omega)).mono ?_
  rintro e w1 ⟨rfl, hd, hf1⟩
  refine ⟨rfl, ?_⟩
  have hrx1 : RX w1 r { R with off := false } vf G Q := hrxW.keep hf1.size (fun k hk => hf1.blk k (hrxW.lt k hk) (fun ho => h.oq k ho hk))
  refine (rcrash_any (.slice none 0 0) [] hrx1 (keep_nil _ _) (by simp)).mono ?_
  rintro e w2 ⟨rfl, hx, hf2⟩
  obtain ⟨a, cap, hvf, _, _⟩ := hx.files
  rw [length_crashL] at hvf
  subst hvf
  have hg : (crashL [] 0 G).map er = fallF (List.replicate 100 0) 0 F := by
    rw [crash_er, h.gf]
    refine fallF_alike (fun i => ?_) 0 F
    rw [List.getD_eq_getElem?_getD, List.getD_eq_getElem?_getD, List.getElem?_replicate]
    split <;> rfl
  refine ⟨rfl, a, G.length, cap, ⟨{ S with off := false, halting := false, left := 0 }, { R with off := false, halt := -1 }, _, crashL [] 0 G, O, Q, ⟨hd.fr hf2.size (fun k hk => hf2.blk k (hd.lt k hk) (h.oq k hk)), hx, ⟨h.al.room, rfl, h.al.count, rfl, fun hs => by cases hs⟩, hg, ok_names h.ok (fallF_names _ 0 F), h.oB, h.qB, h.oq, (hfrW.trans (FrB.of_fr hf1 h.oB)).trans (FrB.of_fr hf2 h.qB), h.cnt, h.room, fun hs => by cases hs⟩, rfl, by rw [length_crashL]⟩, hx.cells.1, h.rx.few⟩

theorem EX.below {w wr w' : World} {p r n : Nat} {a : Option Addr} {m cap : Nat} (h : EX w wr p r n a m cap) (hb : Below wr.heap.size wr w') : EX w w' p r n a m cap := by
  obtain ⟨S, R, F, G, O, Q, h, h1, h2⟩ := h
  exact ⟨S, R, F, G, O, Q, ⟨h.dx.below hb, h.rx.keep hb.size (fun k hk => hb.block k (h.rx.lt k hk)), h.al, h.gf, h.ok, h.oB, h.qB, h.oq, h.fr.trans (FrB.of_below hb), h.cnt, h.room, h.lf⟩, h1, h2⟩
theorem EX.env {w wr : World} {p r n : Nat} {a : Option Addr} {m cap : Nat} (h : EX w wr p r n a m cap) : FrB w.heap.size w wr := by
  obtain ⟨S, R, F, G, O, Q, h, h1, h2⟩ := h
  exact h.fr

/-- One file is read at the end. -/
theorem ex_read {w wr : World} {p r n : Nat} {a : Option Addr} {m cap : Nat} (h : EX w wr p r n a m cap) (hE : ET w) (i : Nat) (hi : i < m) :
    ∃ (g : Nat) (nm : List UInt8) (ea : Option Addr) (el ek : Nat), a = some ⟨g, 0, none⟩ ∧ wr.cell? ⟨r, 0, none⟩ = some (.slice a m cap) ∧ wr.cell? ⟨g, i * 3, none⟩ = some (.string ⟨nm.toArray⟩) ∧
      Hid (Calls Tryd.prog 29 #[.pointer (some ⟨p, 0, none⟩), .string ⟨nm.toArray⟩] wr fun e w1 => ∃ a1 k1, e = .returned (.tuple #[.slice a1 el k1, .nilIface]) ∧ w1.cell? ⟨r, 0, none⟩ = some (.slice a m cap) ∧ w1.cell? ⟨g, i * 3 + 1, none⟩ = some (.slice ea el ek) ∧
        Hid (EX w w1 p r n a m cap) ∧ Hid (Calls Tryd.prog 31 #[.slice a1 el k1, .slice ea el ek] w1 fun e w2 => e = .returned (.bool true) ∧ w2 = w1)) := by
  have H := h
  obtain ⟨S, R, F, G, O, Q, h, hoff, hm⟩ := h
  obtain ⟨e, hie⟩ : ∃ e, G[i]? = some e := ⟨G[i], List.getElem?_eq_getElem (by omega)⟩
  obtain ⟨g, cp, cur, hvf, hgr, hQg, hcg, k0, k1, k2⟩ := h.rx.file hie
  injection hvf with hva _ _
  obtain ⟨ea, ek, hev⟩ := (h.rx.dat e (List.mem_of_getElem? hie)).slice
  have hel := h.rx.len e (List.mem_of_getElem? hie)
  refine ⟨g, e.name, ea, e.data.length, ek, hva, h.rx.cells.1, by rw [(cellB hcg _).1, ← Array.getElem?_toList, k0], ?_⟩
  have hnm := h.rx.nam e (List.mem_of_getElem? hie)
  have hsz : (ByteArray.mk e.name.toArray).size ≤ maxLen := by show e.name.toArray.size ≤ _; unfold maxLen; simp; omega
  have hsl : (ByteArray.mk e.name.toArray).data.toList = e.name := by simp
  have hlk : look F e.name = some (er e) := by
    have hmem : er e ∈ F := by rw [← h.gf]; exact List.mem_map_of_mem (List.mem_of_getElem? hie)
    exact look_of_mem (e := er e) h.dx.rising hmem
  have hrc : readC S F e.name = 0 := by
    unfold readC
    rw [hoff, hlk]
    rfl
  have hod : oldData F e.name = e.data := by
    unfold oldData
    rw [hlk]
    rfl
  refine (dx_read ⟨e.name.toArray⟩ h.dx (hE.frB h.fr hE.lt) hsz).mono ?_
  rw [hsl, hrc, hod]
  rintro ev w1 ⟨hb, ⟨h0, _⟩ | ⟨_, _, v, rfl, hrow⟩⟩
  · exact absurd rfl h0
  · obtain ⟨a1, k1', rfl⟩ := own_sl hrow
    have hx1 := h.rx.keep hb.size (fun k hk => hb.block k (h.rx.lt k hk))
    have hcg1 : w1.heap[g]? = some (.cells cur 61 (0, 0)) := (hb.block g (h.rx.lt g hQg)).trans hcg
    refine ⟨a1, k1', rfl, hx1.cells.1, by rw [(cellB hcg1 _).1, ← Array.getElem?_toList, k1, hev], H.below hb, ?_⟩
    refine bytes_both (rbo_of_row (ownsRow_base0 hrow) (by omega)) ?_ (O' := fun _ => False)
    rw [← hev]
    exact (hx1.dat e (List.mem_of_getElem? hie)).o hx1.lt hel.2
end Go.Proofs.YthebgoadeecmpaaDoor
