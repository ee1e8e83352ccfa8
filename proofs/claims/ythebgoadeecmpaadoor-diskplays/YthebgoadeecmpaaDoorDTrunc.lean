/- Truncate, Remove. -/
import Derived.Test.YthebgoadeecmpaaDoorDCrash
namespace Go.Proofs.YthebgoadeecmpaaDoor
open Go.RowKit Go.Lib Go.Maps Go.WideMaps

def cutE (n : Nat) (e : Ent) : Ent := { e with v := shorten e.v n, data := e.data.take n, sure := min e.sure n }
theorem FileAt.ne {w : World} {e : Ent} (h : FileAt w e) : e.v.ownBlock ≠ some e.fp := by
  intro hx
  rcases h.row.2 with ⟨e1, _⟩ | ⟨g, cap, cur, e1, _, hc, _⟩
  · rw [e1] at hx; simp [Value.ownBlock] at hx
  · rw [e1] at hx; simp [Value.ownBlock] at hx; subst hx; rw [h.blk] at hc; injection hc with hc; injection hc with _ h2; exact absurd h2 (by decide)
theorem cut_file {w : World} {e : Ent} (h : FileAt w e) (n : Nat) (hn : n ≤ e.data.length) : FileAt ((w.setCell ⟨e.fp, 0, none⟩ (shorten e.v n)).setCell ⟨e.fp, 1, none⟩ (.int .i64 ((min e.sure n : Nat) : Int))) (cutE n e) := by
  have hne := h.ne
  have hlen : (e.data.take n).length = n := by rw [List.length_take]; omega
  refine ⟨heap_setCell_at (heap_setCell_at h.blk 0 _) 1 _, ownsRow_of_same (w := w) ?_ (fun k hk => ?_), ?_, ?_⟩
  · show w.ownsRow 0 5 1 (shorten e.v n) (e.data.take n).length (byteCells (e.data.take n))
    rw [hlen]
    refine ⟨by rw [Lib.byteCells_length, hlen]; omega, ?_⟩
    rcases h.row.2 with ⟨e1, e2⟩ | ⟨g, cap, cur, e1, h0, hc, h1, h2, h3, h4⟩
    · left
      have : n = 0 := by omega
      rw [this, e1]; exact ⟨rfl, rfl⟩
    · right
      refine ⟨g, cap, cur, by rw [e1]; rfl, h0, hc, by omega, h2, h3, ?_⟩
      have : cur.toList.take (n * 1) = (cur.toList.take (e.data.length * 1)).take n := by rw [List.take_take]; congr 1; omega
      rw [this, h4]
      unfold byteCells
      rw [List.map_take]
  · have hk : (shorten e.v n).ownBlock = some k := hk
    rw [ownBlock_shorten] at hk
    have : k ≠ e.fp := fun hx => hne (by rw [← hx]; exact hk)
    rw [heap_setCell_ne 1 _ this, heap_setCell_ne 0 _ this]
  · show min e.sure n ≤ (e.data.take n).length
    omega
  · show (e.data.take n).length ≤ 1048576
    have := h.len; omega
theorem dk_cut {w : World} {p : Nat} {S : St} {mb : Option Nat} {L : List Ent} {O : Nat → Prop} (h : DK w p S mb L O) (hO : ∀ k, O k → k < w.heap.size) (e : Ent) (he : e ∈ L) (n : Nat) (hn : n ≤ e.data.length) :
    DK ((w.setCell ⟨e.fp, 0, none⟩ (shorten e.v n)).setCell ⟨e.fp, 1, none⟩ (.int .i64 ((min e.sure n : Nat) : Int))) p S mb (repl (cutE n e) L) O ∧ FrO O w ((w.setCell ⟨e.fp, 0, none⟩ (shorten e.v n)).setCell ⟨e.fp, 1, none⟩ (.int .i64 ((min e.sure n : Nat) : Int))) := by
  have hb : (cutE n e).v.ownBlock = e.v.ownBlock := ownBlock_shorten e.v n
  exact ⟨dk_repl h e (cutE n e) he rfl rfl (cut_file (h.files e he) n hn) (fun k hk => hk) (fun k hk => h.oR e he k (by rw [← hb]; exact hk)) hO (.inl hb) (fun k _ h1 _ => by rw [heap_setCell_ne 1 _ h1, heap_setCell_ne 0 _ h1]),
    ((FrO.refl O w).set (h.oF e he) 0 _).set (h.oF e he) 1 _⟩

def truncC (L : List Ent) (nm : List UInt8) (n : Int) : Int := match look L nm with | some e => if 0 ≤ n ∧ n ≤ (e.data.length : Int) then 0 else 40 | none => 30
/-- What Truncate leaves. -/
def TruncPost (w : World) (p : Nat) (S : St) (mb : Option Nat) (L : List Ent) (O : Nat → Prop) (nm : List UInt8) (n : Int) (e : Ending) (w' : World) : Prop :=
  ∃ v L', e = .returned v ∧ ErrOut (Old w) w' v (beginS S (truncC L nm n)).2 ∧ DK w' p (beginS S (truncC L nm n)).1 mb L' O ∧ FrO O w w' ∧
    ((beginS S (truncC L nm n)).2 ≠ 0 → L' = L) ∧ ((beginS S (truncC L nm n)).2 = 0 → ∃ e', look L nm = some e' ∧ L' = repl (cutE n.toNat e') L)

set_option maxHeartbeats 6400000 in
set_option maxRecDepth 100000 in
theorem trunc_any {w : World} {p : Nat} {S : St} {mb : Option Nat} {L : List Ent} {O : Nat → Prop} (s : ByteArray) (n : Int) (h : DK w p S mb L O) (hO : ∀ k, O k → k < w.heap.size) (hE : ET w) (hs : s.size ≤ maxLen) (hn : -9223372036854775808 ≤ n ∧ n ≤ 9223372036854775807)
    (hc : 0 ≤ S.count ∧ S.count < 1000000000) (hl : S.halting = true → 0 ≤ S.left ∧ S.left < 9223372036854775808) :
    Calls Tryd.prog 12 #[.pointer (some ⟨p, 0, none⟩), .string s, .int .i64 n] w (TruncPost w p S mb L O s.data.toList n) := by
  have HF := hide (find_any s h hs)
  unfold FindRes at HF
  unfold TruncPost truncC
  cases hlk : look L s.data.toList with
  | none =>
    rw [hlk] at HF
    have HB := hide (begin_any s (evC 30) 30 h hO (Old w) (fun _ hh => hh) hE (.inr ⟨by decide, .inl rfl⟩) (fun b hb => by cases hb) hc hl)
    have hbs := beginS_ne (S := S) (c := 30) (by decide)
    have HX : Hid (∀ w' v', ErrOut (Old w) w' v' (beginS S 30).2 → ∃ b, v' = evW b) := fun w' v' h1 => by
      rcases h1 with ⟨_, h2⟩ | ⟨_, b, hb, _⟩
      · exact absurd h2 hbs.1
      · exact ⟨b, hb⟩
    clear h
    go_enter Tryd.func12, Tryd.ntmps12
    go_wp2_with (first
      | (go_at_call 32; refine (unhide HF).mono ?_; rintro e0 w0 ⟨rfl, rfl⟩)
      | (go_at_call 36; refine (unhide HB).mono ?_; rintro e0 w1 ⟨v1, rfl, he1, hd1, hf1⟩; obtain ⟨b1, rfl⟩ := unhide HX _ _ he1))
    go_ret
    exact ⟨_, L, rfl, he1, hd1, hf1, fun _ => rfl, fun hh => absurd hh hbs.1⟩
  | some e =>
    rw [hlk] at HF
    obtain ⟨hem, hen⟩ := look_mem hlk
    have hef0 := h.files e hem
    obtain ⟨a0, k0, hv0⟩ := own_v hef0
    have c00 : w.cell? ⟨e.fp, 0, none⟩ = some (.slice a0 e.data.length k0) := by rw [(cellB hef0.blk 0).1, ← hv0]; rfl
    have hlen := hef0.len
    by_cases hin : 0 ≤ n ∧ n ≤ (e.data.length : Int)
    · simp only [if_pos hin]
      obtain ⟨m, rfl⟩ := Int.eq_ofNat_of_zero_le hin.1
      have hm : m ≤ e.data.length := by omega
      have hmi : (m : Int) ≤ (e.data.length : Int) := hin.2
      have hm1 : ¬ (e.data.length : Int) < (m : Int) := by omega
      have HB := hide (begin_any s .nilIface 0 h hO (Old w) (fun _ hh => hh) hE (.inl ⟨rfl, rfl⟩) (fun b hb => by cases hb) hc hl)
      by_cases hno : (beginS S 0).2 = 0
      · have HX : Hid (∀ w' v', ErrOut (Old w) w' v' (beginS S 0).2 → v' = .nilIface) := fun w' v' h1 => by
          rcases h1 with ⟨hh, _⟩ | ⟨h2, _⟩
          · exact hh
          · exact absurd hno h2
        have hk0 : m ≤ k0 := by
          rcases hef0.row.2 with ⟨e1, e2⟩ | ⟨g, cap, cur, e1, _, _, h1, h2, _⟩
          · omega
          · rw [hv0] at e1; cases e1; omega
        have hki : (m : Int) ≤ (k0 : Int) := by omega
        have hsl : ∀ w1 : World, w1.cell? ⟨e.fp, 0, none⟩ = some e.v → w1.cell? ⟨e.fp, 0, none⟩ = some (.slice a0 e.data.length k0) := fun w1 hh => by rw [hh, hv0]
        have HP : Hid (∀ w1, FrO O w w1 → DK w1 p (beginS S 0).1 mb L O → w1.cell? ⟨e.fp, 0, none⟩ = some (.slice a0 e.data.length k0) ∧ w1.cell? ⟨e.fp, 1, none⟩ = some (.int .i64 (e.sure : Int)) ∧ w1.frozen? ⟨e.fp, 1, none⟩ = false ∧ w1.frozen? ⟨e.fp, 0, none⟩ = false ∧
            DK ((w1.setCell ⟨e.fp, 0, none⟩ (.slice a0 m k0)).setCell ⟨e.fp, 1, none⟩ (.int .i64 (min (e.sure : Int) (m : Int)))) p (beginS S 0).1 mb (repl (cutE m e) L) O ∧ FrO O w1 ((w1.setCell ⟨e.fp, 0, none⟩ (.slice a0 m k0)).setCell ⟨e.fp, 1, none⟩ (.int .i64 (min (e.sure : Int) (m : Int))))) := by
          intro w1 hf1 hd1
          have hef := hd1.files e hem
          have hh := dk_cut hd1 (fun k hk => Nat.lt_of_lt_of_le (hO k hk) hf1.size) e hem m hm
          have hvm : shorten e.v m = .slice a0 m k0 := by rw [hv0]; rfl
          have hmin : ((min e.sure m : Nat) : Int) = min (e.sure : Int) (m : Int) := by omega
          rw [hvm, hmin] at hh
          exact ⟨by rw [(cellB hef.blk 0).1, ← hv0]; rfl, by rw [(cellB hef.blk 1).1]; rfl, (cellB hef.blk 1).2, (cellB hef.blk 0).2, hh.1, hh.2⟩
        have hsu := hef0.sure
        clear h hef0 hsl hin
        generalize hsure : (e.sure : Int) = su at *
        generalize hfp : e.fp = fp at *
        go_enter Tryd.func12, Tryd.ntmps12
        go_wp2_with (first
          | (go_at_call 32; refine (unhide HF).mono ?_; rintro e0 w0 ⟨rfl, rfl⟩)
          | (go_at_call 36; refine (unhide HB).mono ?_; rintro e0 w1 ⟨v1, rfl, he1, hd1, hf1⟩; have e1 := unhide HX _ _ he1; subst e1; obtain ⟨c0, c1, f1, f0, d2, g2⟩ := unhide HP _ hf1 hd1))
        go_region
        all_goals go_wp2
        all_goals go_ret
        all_goals exact ⟨_, _, rfl, .inl ⟨rfl, hno⟩, d2.same (fun k _ => rfl), FrO.trans hf1 (FrO.trans g2 (FrO.of_below (O := O) ((Below.refl _ _).drew)) (fun _ _ hh => hh)) (fun _ _ hh => hh), fun hh => absurd hno hh, fun _ => ⟨e, rfl, by simp⟩⟩
      · have HX : Hid (∀ w' v', ErrOut (Old w) w' v' (beginS S 0).2 → ∃ b, v' = evW b) := fun w' v' h1 => by
          rcases h1 with ⟨_, h2⟩ | ⟨_, b, hb, _⟩
          · exact absurd h2 hno
          · exact ⟨b, hb⟩
        clear h hef0 hin
        go_enter Tryd.func12, Tryd.ntmps12
        go_wp2_with (first
          | (go_at_call 32; refine (unhide HF).mono ?_; rintro e0 w0 ⟨rfl, rfl⟩)
          | (go_at_call 36; refine (unhide HB).mono ?_; rintro e0 w1 ⟨v1, rfl, he1, hd1, hf1⟩; obtain ⟨b1, rfl⟩ := unhide HX _ _ he1))
        go_ret
        exact ⟨_, L, rfl, he1, hd1, hf1, fun _ => rfl, fun hh => absurd hh hno⟩
    · simp only [if_neg hin]
      have HB := hide (begin_any s (evC 40) 40 h hO (Old w) (fun _ hh => hh) hE (.inr ⟨by decide, .inl rfl⟩) (fun b hb => by cases hb) hc hl)
      have hbs := beginS_ne (S := S) (c := 40) (by decide)
      have HX : Hid (∀ w' v', ErrOut (Old w) w' v' (beginS S 40).2 → ∃ b, v' = evW b) := fun w' v' h1 => by
        rcases h1 with ⟨_, h2⟩ | ⟨_, b, hb, _⟩
        · exact absurd h2 hbs.1
        · exact ⟨b, hb⟩
      clear h hef0
      by_cases hneg : n < 0
      · go_enter Tryd.func12, Tryd.ntmps12
        go_wp2_with (first
          | (go_at_call 32; refine (unhide HF).mono ?_; rintro e0 w0 ⟨rfl, rfl⟩)
          | (go_at_call 36; refine (unhide HB).mono ?_; rintro e0 w1 ⟨v1, rfl, he1, hd1, hf1⟩; obtain ⟨b1, rfl⟩ := unhide HX _ _ he1))
        go_ret
        exact ⟨_, L, rfl, he1, hd1, hf1, fun _ => rfl, fun hh => absurd hh hbs.1⟩
      · have hgt : (e.data.length : Int) < n := by omega
        go_enter Tryd.func12, Tryd.ntmps12
        go_wp2_with (first
          | (go_at_call 32; refine (unhide HF).mono ?_; rintro e0 w0 ⟨rfl, rfl⟩)
          | (go_at_call 36; refine (unhide HB).mono ?_; rintro e0 w1 ⟨v1, rfl, he1, hd1, hf1⟩; obtain ⟨b1, rfl⟩ := unhide HX _ _ he1))
        go_ret
        exact ⟨_, L, rfl, he1, hd1, hf1, fun _ => rfl, fun hh => absurd hh hbs.1⟩
end Go.Proofs.YthebgoadeecmpaaDoor
