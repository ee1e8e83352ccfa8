/- Both disks: Halt, Crash, what they tell. -/
import Derived.Test.YthebgoadeecmpaaDoorQPair
namespace Go.Proofs.YthebgoadeecmpaaDoor
open Go.RowKit Go.Lib Go.Maps Go.WideMaps

theorem below_drewN {n : Nat} {w w' : World} (h : Below n w w') (m : Nat) : Below n w (w'.drewN m) := ⟨h.os, h.tape, h.output, h.size, h.block⟩
/-- What two calls without an answer leave. -/
def DonePost (w wr : World) (p r n : Nat) (K : Nat → Prop) (e : Ending) (w2 : World) : Prop := e = .returned (.tuple #[]) ∧ Hid (KF K wr w2) ∧ Hid (TX w w2 p r n K)

theorem tx_halt {w wr : World} {p r n : Nat} {K : Nat → Prop} (h : TX w wr p r n K) (k : Int) (hk : k ≤ 9223372036854775807) :
    Calls Tryd.prog 18 #[.pointer (some ⟨p, 0, none⟩), .int .i64 k] wr fun e w1 => e = .returned (.tuple #[]) ∧ Hid (KF K wr w1) ∧ Hid (Calls Tryd.prog 19 #[.pointer (some ⟨r, 0, none⟩), .int .i64 k] w1 (DonePost w wr p r n K)) := by
  obtain ⟨S, R, F, vf, G, O, Q, h, hK⟩ := h
  refine (dx_halt k h.dx).mono ?_
  rintro e w1 ⟨rfl, hd, hf1⟩
  refine ⟨rfl, hK.kf1 hf1, ?_⟩
  refine (rhalt_any k (h.mid hf1)).mono ?_
  rintro e w2 ⟨rfl, hx, hf2⟩
  refine ⟨rfl, hK.kf2 hf1 hf2, two_step h hK hd hf1 (fun _ hk => .inl hk) hx hf2 (fun _ hk => .inl hk) ⟨h.al.room, h.al.off, h.al.count, ?_, fun hs => by simpa using hs⟩ h.gf h.ok h.cnt rfl (fun _ => hk)⟩
  show max k (-1) = if decide (0 ≤ k) = true then k else -1
  by_cases h0 : 0 ≤ k
  · rw [if_pos (by simpa using h0)]; omega
  · rw [if_neg (by simpa using h0)]; omega

theorem fallF_names (ks : List Int) : ∀ (i : Nat) (F : List Ent), (fallF ks i F).map (·.name) = F.map (·.name)
  | _, [] => rfl
  | i, e :: r => by simp [fallF, fl, fallF_names ks (i + 1) r]
theorem ok_names {F F' : List Ent} (h : ∀ e ∈ F, okN e.name = true) (hn : F'.map (·.name) = F.map (·.name)) : ∀ e ∈ F', okN e.name = true := fun e he => by
  have h1 : e.name ∈ F'.map (·.name) := List.mem_map_of_mem he
  rw [hn] at h1
  obtain ⟨x, hx, he'⟩ := List.mem_map.1 h1
  rw [← he']
  exact h x hx

theorem tx_crash {w wr : World} {p r n : Nat} {K : Nat → Prop} (h : TX w wr p r n K) (kv : Value) (ks : List Int) (hkl : ks.length ≤ 1000000) (hkv : ∀ w1, FrB w.heap.size w w1 → KeepAt w1 (fun k => w.heap.size ≤ k) kv ks) :
    Calls Tryd.prog 20 #[.pointer (some ⟨p, 0, none⟩), .agg #[kv]] wr fun e w1 => e = .returned (.tuple #[]) ∧ Hid (KF K wr w1) ∧ Hid (Calls Tryd.prog 21 #[.pointer (some ⟨r, 0, none⟩), .agg #[kv]] w1 (DonePost w wr p r n K)) := by
  obtain ⟨S, R, F, vf, G, O, Q, h, hK⟩ := h
  have hat : ∀ (W : World) (O : Nat → Prop), FrB w.heap.size w W → (∀ k, O k → w.heap.size ≤ k) → KeepAt W O kv ks := fun W O hf hO => by
    obtain ⟨h1, h2 | ⟨b, off, cap, hb, hn, h3⟩⟩ := hkv W hf
    · exact ⟨h1, .inl h2⟩
    · exact ⟨h1, .inr ⟨b, off, cap, hb, fun ho => hn (hO b ho), h3⟩⟩
  refine (dx_crash kv ks h.dx (hat wr O h.fr h.oB) hkl (fun e he => by have := okN_len (h.ok e he); omega)).mono ?_
  rintro e w1 ⟨rfl, hd, hf1⟩
  refine ⟨rfl, hK.kf1 hf1, ?_⟩
  refine (rcrash_any kv ks (h.mid hf1) (hat w1 Q (h.fr.trans (FrB.of_fr hf1 h.oB)) h.qB) hkl).mono ?_
  rintro e w2 ⟨rfl, hx, hf2⟩
  exact ⟨rfl, hK.kf2 hf1 hf2, two_step h hK hd hf1 (fun _ hk => .inl hk) hx hf2 (fun _ hk => .inl hk) ⟨h.al.room, rfl, h.al.count, rfl, fun hs => by cases hs⟩ (by rw [crash_er, h.gf]) (ok_names h.ok (fallF_names ks 0 F)) h.cnt rfl (fun hs => by cases hs)⟩

/-- Class of an error that is told. -/
theorem class_v {w : World} {v : Value} {c : Int} (hE : ET w) (h : ErrV w v c) : Calls Tryd.prog 22 #[v] w fun e w' => e = .returned (.int .i64 c) ∧ Below w.heap.size w w' := by
  rcases h with ⟨rfl, rfl⟩ | ⟨_, b, rfl, hw⟩
  · refine (class_nil w).mono ?_
    rintro e w' ⟨rfl, rfl⟩
    exact ⟨rfl, Below.refl _ _⟩
  · exact class_at b c w hE hw
theorem conv_rbo {w : World} {v : Value} {O : Nat → Prop} {l : List UInt8} (hr : RBo w O v l) : (convert 28 9 v).run Tryd.prog w = .ok (.string ⟨l.toArray⟩) w := by
  obtain ⟨hlen, ⟨rfl, rfl⟩ | ⟨b, off, cap, hbB, _, hcap, hm, rfl, hcell⟩⟩ := hr
  · exact run_convert_bytes_nil w _ _ Tryd.underlying28 Tryd.underlying5 0 0 _ Tryd.underlying9
  · have h := run_convert_bytes_arg (P := Tryd.prog) w 28 5 Tryd.underlying28 Tryd.underlying5 b off l.length cap (l.map fun c => (c.toNat : Int)) (by simp) (fun i hi => by
      rw [hcell i hi]; simp [hi]) 9 Tryd.underlying9
    rw [h]
    exact congrArg (fun x => Result.ok (Value.string x) w) (nums_eqD l)
theorem bytes_both {w : World} {v v' : Value} {O O' : Nat → Prop} {l : List UInt8} (h : RBo w O v l) (h' : RBo w O' v' l) :
    Calls Tryd.prog 31 #[v, v'] w fun e w' => e = .returned (.bool true) ∧ w' = w := by
  have c1 := conv_rbo h
  have c2 := conv_rbo h'
  clear h h'
  go_enter Tryd.func31, Tryd.ntmps31
  go_wp2
  go_ret
  exact ⟨rfl, rfl⟩

/-- Both lists are the same. -/
theorem tx_list {w wr : World} {p r n : Nat} {K : Nat → Prop} (h : TX w wr p r n K) :
    Calls Tryd.prog 24 #[.pointer (some ⟨p, 0, none⟩)] wr fun e w1 => ∃ a m k, e = .returned (.slice a m k) ∧ Below wr.heap.size wr w1 ∧ Hid (Calls Tryd.prog 25 #[.pointer (some ⟨r, 0, none⟩)] w1 fun e w2 => ∃ a' k', e = .returned (.slice a' m k') ∧ Below wr.heap.size wr w2 ∧ Hid (Calls Tryd.prog 23 #[.slice a m k, .slice a' m k'] w2 fun e w3 => e = .returned (.bool true) ∧ Hid (Below wr.heap.size wr w3))) := by
  obtain ⟨S, R, F, vf, G, O, Q, h, hK⟩ := h
  refine (dx_list h.dx).mono ?_
  rintro e w1 ⟨v, rfl, hr, hb⟩
  obtain ⟨a, k, rfl⟩ := own_sl hr
  refine ⟨a, F.length, k, rfl, hb, ?_⟩
  have hf1 : FrO O wr w1 := FrO.of_below hb
  refine (rlist_any (h.mid hf1)).mono ?_
  rintro e w2 ⟨v', rfl, hr', hb'⟩
  obtain ⟨a', k', rfl⟩ := own_sl hr'
  have hGF : G.length = F.length := by rw [← h.gf, List.length_map]
  rw [hGF] at hr'
  refine ⟨a', k', by rw [hGF], hb.trans (hb'.mono hb.size), ?_⟩
  have hnames : G.map (·.name) = F.map (·.name) := by rw [← h.gf, List.map_map]; rfl
  rw [hnames] at hr'
  have hlen : F.length = (F.map (·.name)).length := by rw [List.length_map]
  have hr2 : w2.ownsRow wr.heap.size 9 1 (.slice a F.length k) F.length ((F.map (·.name)).map encStr) := ownsRow_of_same hr (fun q hq => hb'.block q ?_)
  · rw [hlen] at hr2 hr' ⊢
    refine (texts_rows (F.map (·.name)) hr2 hr' (by rw [← hlen]; exact h.dx.few)).mono ?_
    rintro e w3 ⟨rfl, m, rfl⟩
    exact ⟨rfl, below_drewN (hb.trans (hb'.mono hb.size)) m⟩
  · rcases own_cells hr with ⟨e1, _⟩ | ⟨g, cap, cur, e1, _, hc, _⟩
    · rw [e1] at hq; simp [Value.ownBlock] at hq
    · rw [e1] at hq; simp [Value.ownBlock] at hq; subst hq
      exact (Array.getElem?_eq_some_iff.1 hc).1

/-- Both use as much, and have counted as much. -/
theorem tx_used {w wr : World} {p r n : Nat} {K : Nat → Prop} (h : TX w wr p r n K) :
    Calls Tryd.prog 26 #[.pointer (some ⟨p, 0, none⟩)] wr fun e w1 => ∃ u c : Int, e = .returned (.int .i64 u) ∧ w1.cell? ⟨r, 4, none⟩ = some (.int .i64 c) ∧ Hid (Below wr.heap.size wr w1) ∧
      Hid (Calls Tryd.prog 27 #[.pointer (some ⟨r, 0, none⟩)] w1 fun e w2 => e = .returned (.int .i64 u) ∧ w2 = w1) ∧ Hid (Calls Tryd.prog 28 #[.pointer (some ⟨p, 0, none⟩)] w1 fun e w2 => e = .returned (.int .i64 c) ∧ w2 = w1) := by
  obtain ⟨S, R, F, vf, G, O, Q, h, hK⟩ := h
  refine (dx_used h.dx).mono ?_
  rintro e w1 ⟨rfl, hb⟩
  have hx := h.mid (FrO.of_below hb)
  refine ⟨usedL F, S.count, rfl, ?_, hb, ?_, ?_⟩
  · rw [h.al.count]; exact hx.cells.2.2.2.2
  · have := rused_any hx
    rw [← used_er, h.gf] at this
    exact this
  · exact dx_count (h.dx.below hb)

/-- Both read the same. -/
theorem tx_read {w wr : World} {p r n : Nat} {K : Nat → Prop} (h : TX w wr p r n K) (hE : ET w) (s : List UInt8) (hs : s.length ≤ 1000) :
    Calls Tryd.prog 29 #[.pointer (some ⟨p, 0, none⟩), .string ⟨s.toArray⟩] wr fun e w1 => ∃ a m k ev, e = .returned (.tuple #[.slice a m k, ev]) ∧ Hid (Below wr.heap.size wr w1) ∧
      Hid (Calls Tryd.prog 30 #[.pointer (some ⟨r, 0, none⟩), .string ⟨s.toArray⟩] w1 fun e w2 => ∃ a' k' c, e = .returned (.tuple #[.slice a' m k', .int .i64 c]) ∧ Hid (Below wr.heap.size wr w2) ∧ Hid (ErrV w2 ev c) ∧
        Hid (∀ w3, Below w2.heap.size w2 w3 → Calls Tryd.prog 31 #[.slice a m k, .slice a' m k'] w3 fun e w4 => e = .returned (.bool true) ∧ w4 = w3) ∧
        Hid (∀ w3, Below w2.heap.size w2 w3 → Calls Tryd.prog 9 #[.slice a m k] w3 fun e w4 => e = .returned (.tuple #[]) ∧ Hid (FrO (fun q => (Value.slice a m k).ownBlock = some q) w3 w4)) ∧ Hid (∀ q, (Value.slice a m k).ownBlock = some q → wr.heap.size ≤ q ∧ q < w2.heap.size)) := by
  have hET := h.et hE
  obtain ⟨S, R, F, vf, G, O, Q, h, hK⟩ := h
  have hsz : (ByteArray.mk s.toArray).size ≤ maxLen := by show s.toArray.size ≤ _; unfold maxLen; simp; omega
  have hsl : (ByteArray.mk s.toArray).data.toList = s := by simp
  have hcc : readR R G s = readC S F s := by
    rw [← h.gf, readC_er]
    unfold readR readC
    rw [h.al.off]
    cases look G s <;> rfl
  have hold : oldData G s = oldData F s := by rw [← h.gf, oldData_er]
  have hdl : (oldData F s).length ≤ 1048576 := by
    unfold oldData
    cases hl : look F s with
    | none => simp
    | some e => exact (h.dx.files e (look_mem hl).1).2
  refine (dx_read ⟨s.toArray⟩ h.dx hET hsz).mono ?_
  rw [hsl]
  rintro e w1 ⟨hb, h1⟩
  obtain ⟨v, ev, d, he, hrow, herr, hd⟩ : ∃ (v ev : Value) (d : List UInt8), e = .returned (.tuple #[v, ev]) ∧ w1.ownsRow wr.heap.size 5 1 v d.length (byteCells d) ∧ ErrV w1 ev (readC S F s) ∧ d = if readC S F s = 0 then oldData F s else [] := by
    rcases h1 with ⟨h0, b, he, hw⟩ | ⟨h0, _, v, he, hr⟩
    · exact ⟨_, _, [], he, World.ownsRow_nil _ _ _ _, .inr ⟨h0, b, rfl, hw⟩, by rw [if_neg h0]⟩
    · exact ⟨v, _, _, he, hr, .inl ⟨rfl, h0⟩, by rw [if_pos h0]⟩
  have hdl' : d.length ≤ 1048576 := by
    rw [hd]
    split
    · exact hdl
    · simp
  obtain ⟨a, k, rfl⟩ := own_sl hrow
  have hblk : ∀ q, (Value.slice a d.length k).ownBlock = some q → wr.heap.size ≤ q ∧ q < w1.heap.size := fun q hq => by
    rcases own_cells hrow with ⟨e1, _⟩ | ⟨g, cap, cur, e1, hg, hc, _⟩
    · rw [e1] at hq; simp [Value.ownBlock] at hq
    · rw [e1] at hq; simp [Value.ownBlock] at hq; subst hq
      exact ⟨hg, (Array.getElem?_eq_some_iff.1 hc).1⟩
  refine ⟨a, d.length, k, ev, he, hb, ?_⟩
  refine (rread_any s (h.mid (FrO.of_below hb))).mono ?_
  rw [hcc, hold, ← hd]
  rintro e w2 ⟨v', rfl, hb2, hrow'⟩
  obtain ⟨a', k', rfl⟩ := own_sl hrow'
  have hrow2 : ∀ w3, Below w2.heap.size w2 w3 → w3.ownsRow wr.heap.size 5 1 (.slice a d.length k) d.length (byteCells d) := fun w3 hb3 =>
    ownsRow_of_same hrow (fun q hq => (hb3.block q (Nat.lt_of_lt_of_le (hblk q hq).2 hb2.size)).trans (hb2.block q (hblk q hq).2))
  refine ⟨a', k', readC S F s, rfl, hb.trans (hb2.mono hb.size), ?_, fun w3 hb3 => ?_, fun w3 hb3 => ?_, fun q hq => ⟨(hblk q hq).1, Nat.lt_of_lt_of_le (hblk q hq).2 hb2.size⟩⟩
  · rcases herr with h2 | ⟨h2, b, h3, h4⟩
    · exact .inl h2
    · exact .inr ⟨h2, b, h3, h4.below hb2 h4.lt⟩
  · have hrow3 : w3.ownsRow w1.heap.size 5 1 (.slice a' d.length k') d.length (byteCells d) := ownsRow_of_same hrow' (fun q hq => hb3.block q ?_)
    · exact bytes_both (rbo_of_row (ownsRow_base0 (hrow2 w3 hb3)) (by omega)) (rbo_of_row (ownsRow_base0 hrow3) (by omega))
    · rcases own_cells hrow' with ⟨e1, _⟩ | ⟨g, cap, cur, e1, hg, hc, _⟩
      · rw [e1] at hq; simp [Value.ownBlock] at hq
      · rw [e1] at hq; simp [Value.ownBlock] at hq; subst hq
        exact (Array.getElem?_eq_some_iff.1 hc).1
  · exact spoil_own (hrow2 w3 hb3) (by omega)
end Go.Proofs.YthebgoadeecmpaaDoor
