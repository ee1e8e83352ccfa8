/- A call of each disk: both answer alike, and stay alike. -/
import Derived.Test.YthebgoadeecmpaaDoorQBoth
namespace Go.Proofs.YthebgoadeecmpaaDoor
open Go.RowKit Go.Lib Go.Maps Go.WideMaps

theorem set_er {G : List Ent} (hr : Rising G) {i : Nat} {e e' : Ent} (hi : G[i]? = some e) (hn : e'.name = e.name) : (G.set i e').map er = repl (er e') (G.map er) := by rw [set_repl hr hi hn, repl_er]
theorem ok_repl {F : List Ent} {x : Ent} (h : ∀ e ∈ F, okN e.name = true) (hx : okN x.name = true) : ∀ e ∈ repl x F, okN e.name = true := fun e he => by
  rcases mem_repl he with rfl | ⟨h1, _⟩
  · exact hx
  · exact h e h1
theorem ok_put {F : List Ent} {x : Ent} (h : ∀ e ∈ F, okN e.name = true) (hx : okN x.name = true) : ∀ e ∈ putE x F, okN e.name = true := fun e he => by
  rcases mem_putE.1 he with rfl | ⟨h1, _⟩
  · exact hx
  · exact h e h1
theorem ok_del {F : List Ent} {n : List UInt8} (h : ∀ e ∈ F, okN e.name = true) : ∀ e ∈ delE n F, okN e.name = true := fun e he => h e (List.mem_filter.1 he).1
theorem beginS_zero {S : St} {c : Int} (h : (beginS S c).2 = 0) : c = 0 := by
  unfold beginS at h
  split at h
  · exact absurd (show (32 : Int) = 0 from h) (by decide)
  · split at h
    · rename_i hc
      exact absurd h hc
    · rename_i hc
      exact Classical.not_not.1 hc
theorem there_ok {F : List Ent} {n : List UInt8} (h : ∀ e ∈ F, okN e.name = true) (hc : thereC F n = 0) : okN n = true := by
  unfold thereC at hc
  cases hl : look F n with
  | none => rw [hl] at hc; exact absurd hc (by decide)
  | some e =>
    obtain ⟨h1, h2⟩ := look_mem hl
    rw [← h2]; exact h e h1
theorem old_of {G : List Ent} {n : List UInt8} {e : Ent} (h : look G n = some e) : oldData (G.map er) n = e.data ∧ oldSure (G.map er) n = e.sure := by
  rw [oldData_er, oldSure_er]
  unfold oldData oldSure
  rw [h]
  exact ⟨rfl, rfl⟩
theorem er_eq {e : Ent} {n d : List UInt8} {s : Nat} (h1 : e.name = n) (h2 : e.data = d) (h3 : e.sure = s) : er e = fl n d s := by unfold er; rw [h1, h2, h3]

/-- What both calls leave. -/
def PairPost (w wr : World) (p r n : Nat) (K : Nat → Prop) (v : Value) (e : Ending) (w2 : World) : Prop := ∃ c : Int, e = .returned (.int .i64 c) ∧ Hid (KF K wr w2) ∧ Hid (ErrV w2 v c) ∧ Hid (∀ b, v = evW b → wr.heap.size ≤ b) ∧ Hid (TX w w2 p r (n + 1) K)

theorem pair_end {w wr w1 w2 : World} {p r n : Nat} {S : St} {R : RSt} {F F1 : List Ent} {vf v : Value} {G : List Ent} {O O' Q K : Nat → Prop} {c : Int} (h : Two w wr p r n S R F vf G O Q) (hK : Out wr O Q K)
    (he : ErrOut (Old wr) w1 v (beginS S c).2) (hd : DX w1 p (beginS S c).1 (if (beginS S c).2 = 0 then F1 else F) O') (hf1 : FrO O wr w1) (hO' : ∀ k, O' k → O k ∨ wr.heap.size ≤ k) (hf2 : FrO Q w1 w2)
    (h1 : (mayC R c).2 ≠ 0 → RX w2 r (mayC R c).1 vf G Q) (h2 : (mayC R c).2 = 0 → ∃ vf' G' Q', RX w2 r (mayC R c).1 vf' G' Q' ∧ (∀ q, Q' q → Q q ∨ w1.heap.size ≤ q) ∧ G'.map er = F1) (hok : c = 0 → ∀ e ∈ F1, okN e.name = true) :
    PairPost w wr p r n K v (.returned (.int .i64 (mayC R c).2)) w2 := by
  obtain ⟨hcc, hal⟩ := alike_begin h.al c
  refine ⟨_, rfl, hK.kf2 hf1 hf2, ?_, ?_, ?_⟩
  · show ErrV w2 v _
    rw [← hcc]
    exact err_last he hf2 h.rx.lt
  · intro b hb
    rcases he with ⟨e1, _⟩ | ⟨_, b', e1, _, hn⟩
    · rw [hb] at e1; cases e1
    · rw [hb] at e1; cases e1
      unfold Old at hn
      omega
  · show TX _ _ _ _ _ _
    by_cases h0 : (beginS S c).2 = 0
    · rw [if_pos h0] at hd
      obtain ⟨vf', G', Q', hx, hq, hg⟩ := h2 (by rw [← hcc]; exact h0)
      exact two_step h hK hd hf1 hO' hx hf2 hq hal hg (hok (beginS_zero h0)) (beginS_count h.cnt) (beginS_room S c) (beginS_left h.lf)
    · rw [if_neg h0] at hd
      exact two_step h hK hd hf1 hO' (h1 (by rw [← hcc]; exact h0)) hf2 (fun q hq => .inl hq) hal h.gf h.ok (beginS_count h.cnt) (beginS_room S c) (beginS_left h.lf)

theorem tx_sync {w wr : World} {p r n : Nat} {K : Nat → Prop} (h : TX w wr p r n K) (hn : n ≤ 1000) (hE : ET w) (s : List UInt8) (hs : s.length ≤ 1000) :
    Calls Tryd.prog 10 #[.pointer (some ⟨p, 0, none⟩), .string ⟨s.toArray⟩] wr fun e w1 => ∃ v, e = .returned v ∧ Hid (KF K wr w1) ∧ Hid (Calls Tryd.prog 11 #[.pointer (some ⟨r, 0, none⟩), .string ⟨s.toArray⟩] w1 (PairPost w wr p r n K v)) := by
  have hET := h.et hE
  obtain ⟨S, R, F, vf, G, O, Q, h, hK⟩ := h
  have hsz : (ByteArray.mk s.toArray).size ≤ maxLen := by show s.toArray.size ≤ _; unfold maxLen; simp; omega
  have hsl : (ByteArray.mk s.toArray).data.toList = s := by simp
  refine (dx_sync ⟨s.toArray⟩ h.dx hET hsz (h.hc hn) h.hl).mono ?_
  rw [hsl]
  rintro e w1 ⟨v, rfl, he, hd, hf1⟩
  refine ⟨v, rfl, hK.kf1 hf1, ?_⟩
  refine (rsync_any s (h.mid hf1) h.hh (h.hcR hn)).mono ?_
  have hcc : thereC G s = thereC F s := by rw [← h.gf, thereC_er]
  rw [hcc]
  rintro e w2 ⟨rfl, hf2, h1, h2⟩
  refine pair_end h hK he hd hf1 (fun k hk => .inl hk) hf2 h1 (fun h0 => ?_) (fun hc => ok_repl h.ok (there_ok h.ok hc))
  obtain ⟨i, e, hi, hlk, hx⟩ := h2 h0
  refine ⟨vf, _, Q, hx, fun q hq => .inl hq, ?_⟩
  rw [set_er (e' := { e with sure := e.data.length }) h.ris hi rfl, h.gf]
  obtain ⟨o1, _⟩ := old_of hlk
  rw [h.gf] at o1
  rw [o1]
  congr 1
  exact er_eq (look_mem hlk).2 rfl rfl

theorem tx_trunc {w wr : World} {p r n : Nat} {K : Nat → Prop} (h : TX w wr p r n K) (hn : n ≤ 1000) (hE : ET w) (s : List UInt8) (hs : s.length ≤ 1000) (m : Int) (hm : -9223372036854775808 ≤ m ∧ m ≤ 9223372036854775807) :
    Calls Tryd.prog 12 #[.pointer (some ⟨p, 0, none⟩), .string ⟨s.toArray⟩, .int .i64 m] wr fun e w1 => ∃ v, e = .returned v ∧ Hid (KF K wr w1) ∧ Hid (Calls Tryd.prog 13 #[.pointer (some ⟨r, 0, none⟩), .string ⟨s.toArray⟩, .int .i64 m] w1 (PairPost w wr p r n K v)) := by
  have hET := h.et hE
  obtain ⟨S, R, F, vf, G, O, Q, h, hK⟩ := h
  have hsz : (ByteArray.mk s.toArray).size ≤ maxLen := by show s.toArray.size ≤ _; unfold maxLen; simp; omega
  have hsl : (ByteArray.mk s.toArray).data.toList = s := by simp
  refine (dx_trunc ⟨s.toArray⟩ m h.dx hET hsz hm (h.hc hn) h.hl).mono ?_
  rw [hsl]
  rintro e w1 ⟨v, rfl, he, hd, hf1⟩
  refine ⟨v, rfl, hK.kf1 hf1, ?_⟩
  refine (rtrunc_any s m (h.mid hf1) h.hh (h.hcR hn) hm).mono ?_
  have hcc : truncC G s m = truncC F s m := by rw [← h.gf, truncC_er]
  rw [hcc]
  rintro e w2 ⟨rfl, hf2, h1, h2⟩
  refine pair_end h hK he hd hf1 (fun k hk => .inl hk) hf2 h1 (fun h0 => ?_) (fun hc => ok_repl h.ok (there_ok (F := F) h.ok ?_))
  · obtain ⟨i, e, v', Q', hi, hlk, hx, hq⟩ := h2 h0
    refine ⟨vf, _, Q', hx, hq, ?_⟩
    rw [set_er (e' := ⟨e.name, 0, v', e.data.take m.toNat, min e.sure m.toNat⟩) h.ris hi rfl, h.gf]
    obtain ⟨o1, o2⟩ := old_of hlk
    rw [h.gf] at o1 o2
    rw [o1, o2]
    congr 1
    exact er_eq (look_mem hlk).2 rfl rfl
  · show thereC F s = 0
    unfold truncC at hc
    unfold thereC
    cases hl : look F s with
    | none => rw [hl] at hc; exact absurd (show (30 : Int) = 0 from hc) (by decide)
    | some e => rfl

theorem tx_remove {w wr : World} {p r n : Nat} {K : Nat → Prop} (h : TX w wr p r n K) (hn : n ≤ 1000) (hE : ET w) (s : List UInt8) (hs : s.length ≤ 1000) :
    Calls Tryd.prog 16 #[.pointer (some ⟨p, 0, none⟩), .string ⟨s.toArray⟩] wr fun e w1 => ∃ v, e = .returned v ∧ Hid (KF K wr w1) ∧ Hid (Calls Tryd.prog 17 #[.pointer (some ⟨r, 0, none⟩), .string ⟨s.toArray⟩] w1 (PairPost w wr p r n K v)) := by
  have hET := h.et hE
  obtain ⟨S, R, F, vf, G, O, Q, h, hK⟩ := h
  have hsz : (ByteArray.mk s.toArray).size ≤ maxLen := by show s.toArray.size ≤ _; unfold maxLen; simp; omega
  have hsl : (ByteArray.mk s.toArray).data.toList = s := by simp
  refine (dx_remove ⟨s.toArray⟩ h.dx hET hsz (h.hc hn) h.hl).mono ?_
  rw [hsl]
  rintro e w1 ⟨v, rfl, he, hd, hf1⟩
  refine ⟨v, rfl, hK.kf1 hf1, ?_⟩
  refine (rremove_any s (h.mid hf1) h.hh (h.hcR hn)).mono ?_
  have hcc : thereC G s = thereC F s := by rw [← h.gf, thereC_er]
  rw [hcc]
  rintro e w2 ⟨rfl, hf2, h1, h2⟩
  refine pair_end h hK he hd hf1 (fun k hk => .inl hk) hf2 h1 (fun h0 => ?_) (fun hc => ok_del h.ok)
  obtain ⟨i, e, vf', Q', hi, hlk, hx, hq⟩ := h2 h0
  refine ⟨vf', _, Q', hx, hq, ?_⟩
  rw [erase_del h.ris hi, delE_er, h.gf, (look_mem hlk).2]

theorem tx_rename {w wr : World} {p r n : Nat} {K : Nat → Prop} (h : TX w wr p r n K) (hn : n ≤ 1000) (hE : ET w) (s t : List UInt8) (hs : s.length ≤ 1000) (ht : t.length ≤ 1000) :
    Calls Tryd.prog 14 #[.pointer (some ⟨p, 0, none⟩), .string ⟨s.toArray⟩, .string ⟨t.toArray⟩] wr fun e w1 => ∃ v, e = .returned v ∧ Hid (KF K wr w1) ∧ Hid (Calls Tryd.prog 15 #[.pointer (some ⟨r, 0, none⟩), .string ⟨s.toArray⟩, .string ⟨t.toArray⟩] w1 (PairPost w wr p r n K v)) := by
  have hET := h.et hE
  obtain ⟨S, R, F, vf, G, O, Q, h, hK⟩ := h
  have hsl : (ByteArray.mk s.toArray).data.toList = s := by simp
  have htl : (ByteArray.mk t.toArray).data.toList = t := by simp
  refine (dx_rename ⟨s.toArray⟩ ⟨t.toArray⟩ h.dx hET (by show s.toArray.size ≤ _; simpa using hs) (by show t.toArray.size ≤ _; simpa using ht) (h.hc hn) h.hl).mono ?_
  rw [hsl, htl]
  rintro e w1 ⟨v, O', rfl, he, hd, hf1, hO'⟩
  refine ⟨v, rfl, hK.kf1 hf1, ?_⟩
  refine (rrename_any s t (h.mid hf1) h.ris h.hh (h.hcR hn) ht).mono ?_
  unfold RRenPost
  have hcc : renC G s t = renC F s t := by rw [← h.gf, renC_er]
  rw [hcc]
  rintro e w2 ⟨rfl, hf2, h1, h2⟩
  refine pair_end h hK he hd hf1 hO' hf2 h1 (fun h0 => ?_) (fun hc => ok_put (ok_del h.ok) ?_)
  · obtain ⟨e, vf', G', Q', hlk, hx, hq, hg⟩ := h2 h0
    refine ⟨vf', G', Q', hx, hq, ?_⟩
    obtain ⟨o1, o2⟩ := old_of hlk
    rw [h.gf] at o1 o2
    rw [hg, o1, o2, h.gf]
  · unfold renC at hc
    by_cases hk : okN t = true
    · exact hk
    · rw [if_neg hk] at hc
      exact absurd hc (by decide)

theorem tx_append {w wr : World} {p r n : Nat} {K : Nat → Prop} (h : TX w wr p r n K) (hn : n ≤ 1000) (hE : ET w) (s : List UInt8) (hs : s.length ≤ 1000) (lb : List UInt8) (hlb : lb.length ≤ 1000000) (bv cv : Value) (hb : RBo wr (fun k => ¬ K k) bv lb) (hcv : ∀ w1, FrB w.heap.size w w1 → RBz w1 (fun k => w.heap.size ≤ k) cv lb) :
    Calls Tryd.prog 7 #[.pointer (some ⟨p, 0, none⟩), .string ⟨s.toArray⟩, bv] wr fun e w1 => ∃ v, e = .returned v ∧ Hid (KF K wr w1) ∧ Hid (Calls Tryd.prog 8 #[.pointer (some ⟨r, 0, none⟩), .string ⟨s.toArray⟩, cv] w1 (PairPost w wr p r n K v)) := by
  have hET := h.et hE
  obtain ⟨S, R, F, vf, G, O, Q, h, hK⟩ := h
  have hsl : (ByteArray.mk s.toArray).data.toList = s := by simp
  have hb' : RBo wr O bv lb := by
    obtain ⟨h1, h2 | ⟨b, off, cap, hbl, hnb, h3, h4, h5, h6⟩⟩ := hb
    · exact ⟨h1, .inl h2⟩
    · exact ⟨h1, .inr ⟨b, off, cap, hbl, (hK b (Classical.not_not.1 hnb)).1, h3, h4, h5, h6⟩⟩
  refine (dx_append ⟨s.toArray⟩ bv lb h.dx hET (by show s.toArray.size ≤ _; simpa using hs) ⟨h.room.1, by have := h.room.2; omega⟩ (h.hc hn) h.hl hb').mono ?_
  rw [hsl]
  rintro e w1 ⟨v, O', rfl, he, hd, hf1, hO'⟩
  refine ⟨v, rfl, hK.kf1 hf1, ?_⟩
  have hc1 : RBz w1 Q cv lb := by
    rcases hcv w1 (h.fr.trans (FrB.of_fr hf1 h.oB)) with ⟨h1, h2 | ⟨b, off, cap, hbl, hnb, h3, h4, h5, h6⟩⟩ | hz
    · exact .inl ⟨h1, .inl h2⟩
    · exact .inl ⟨h1, .inr ⟨b, off, cap, hbl, fun hq => hnb (h.qB b hq), h3, h4, h5, h6⟩⟩
    · exact .inr hz
  refine (rappend_any s cv lb (h.mid hf1) h.hh (h.hcR hn) hs h.okG hc1 hlb).mono ?_
  unfold RAppPost
  have hcc : rappC R G s lb.length = appC S F s lb.length := by rw [← alike_app h.al h.okG, ← h.gf, appC_er]
  rw [hcc]
  rintro e w2 ⟨rfl, hf2, h1, h2⟩
  refine pair_end h hK he hd hf1 hO' hf2 h1 (fun h0 => ?_) (fun hc => ok_put h.ok ?_)
  · obtain ⟨vf', v', Q', G', hx, hq, ⟨i, e, hlk, hi, rfl⟩ | ⟨hlk, rfl⟩⟩ := h2 h0
    · refine ⟨vf', _, Q', hx, hq, ?_⟩
      rw [set_er (e' := ⟨e.name, 0, v', e.data ++ lb, e.sure⟩) h.ris hi rfl, h.gf]
      obtain ⟨o1, o2⟩ := old_of hlk
      rw [h.gf] at o1 o2
      rw [o1, o2, er_eq (e := ⟨e.name, 0, v', e.data ++ lb, e.sure⟩) (look_mem hlk).2 rfl rfl]
      refine (putE_repl (e := er e) (e' := fl s (e.data ++ lb) e.sure) h.dx.rising ?_ (look_mem hlk).2).symm
      rw [← h.gf]
      exact List.mem_map_of_mem (List.mem_of_getElem? hi)
    · refine ⟨vf', _, Q', hx, hq, ?_⟩
      rw [er_mid hlk, h.gf]
      have hlF : look F s = none := by rw [← h.gf, look_er, hlk]; rfl
      have o1 : oldData F s = [] := by unfold oldData; rw [hlF]
      have o2 : oldSure F s = 0 := by unfold oldSure; rw [hlF]
      rw [o1, o2]
      show insE (fl s lb 0) F = insE (fl s ([] ++ lb) 0) (delE s F)
      rw [delE_all (look_none hlF)]
      rfl
  · show okN s = true
    unfold appC at hc
    cases hl : look F s with
    | some e =>
      obtain ⟨a1, a2⟩ := look_mem hl
      rw [← a2]; exact h.ok e a1
    | none =>
      rw [hl] at hc
      unfold anotherC at hc
      by_cases hk : okN s = true
      · exact hk
      · rw [if_neg hk] at hc
        exact absurd (show (20 : Int) = 0 from hc) (by decide)
end Go.Proofs.YthebgoadeecmpaaDoor
