/- Sync: all of a file is sure. -/
import Derived.Test.YtebiekkkmimomaaGreatDoorDAppN
namespace Go.Proofs.YtebiekkkmimomaaGreatDoor.Dk
open Go.RowKit Go.Lib Go.Maps Go.WideMaps

def thereC (L : List Ent) (n : List UInt8) : Int := match look L n with | some _ => 0 | none => 30
def syncE (e : Ent) : Ent := { e with sure := e.data.length }

theorem dk_sync {w : World} {p : Nat} {S : St} {mb : Option Nat} {L : List Ent} {O : Nat → Prop} (h : DK w p S mb L O) (hO : ∀ k, O k → k < w.heap.size) (e : Ent) (he : e ∈ L) :
    DK (w.setCell ⟨e.fp, 1, none⟩ (.int .i64 (e.data.length : Int))) p S mb (repl (syncE e) L) O ∧ FrO O w (w.setCell ⟨e.fp, 1, none⟩ (.int .i64 (e.data.length : Int))) := by
  have hef := h.files e he
  have hne : e.v.ownBlock ≠ some e.fp := by
    intro hx
    rcases hef.row.2 with ⟨e1, _⟩ | ⟨g, cap, cur, e1, _, hc, _⟩
    · rw [e1] at hx; simp [Value.ownBlock] at hx
    · rw [e1] at hx; simp [Value.ownBlock] at hx; subst hx; rw [hef.blk] at hc; injection hc with hc; injection hc with _ h2; exact absurd h2 (by decide)
  have hf : FileAt (w.setCell ⟨e.fp, 1, none⟩ (.int .i64 (e.data.length : Int))) (syncE e) :=
    ⟨heap_setCell_at hef.blk 1 _, ownsRow_of_same (w := w) hef.row (fun k hk => heap_setCell_ne 1 _ (fun hx => hne (by rw [← hx]; exact hk))), Nat.le_refl _, hef.len⟩
  exact ⟨dk_repl h e (syncE e) he rfl rfl hf (fun k hk => hk) (h.oR e he) hO (.inl rfl) (fun k _ h1 _ => heap_setCell_ne 1 _ h1), (FrO.refl O w).set (h.oF e he) 1 _⟩

/-- What Sync leaves. -/
def SyncPost (w : World) (p : Nat) (S : St) (mb : Option Nat) (L : List Ent) (O : Nat → Prop) (n : List UInt8) (e : Ending) (w' : World) : Prop :=
  ∃ v L', e = .returned v ∧ ErrOut (Old w) w' v (beginS S (thereC L n)).2 ∧ DK w' p (beginS S (thereC L n)).1 mb L' O ∧ FrO O w w' ∧
    ((beginS S (thereC L n)).2 ≠ 0 → L' = L) ∧ ((beginS S (thereC L n)).2 = 0 → ∃ e', look L n = some e' ∧ L' = repl (syncE e') L)

set_option maxHeartbeats 3200000 in
set_option maxRecDepth 100000 in
theorem sync_any {w : World} {p : Nat} {S : St} {mb : Option Nat} {L : List Ent} {O : Nat → Prop} (s : ByteArray) (h : DK w p S mb L O) (hO : ∀ k, O k → k < w.heap.size) (hE : ET w) (hs : s.size ≤ maxLen)
    (hc : 0 ≤ S.count ∧ S.count < 1000000000) (hl : S.halting = true → 0 ≤ S.left ∧ S.left < 9223372036854775808) :
    Calls Tryz.prog 26 #[.pointer (some ⟨p, 0, none⟩), .string s] w (SyncPost w p S mb L O s.data.toList) := by
  have HF := hide (find_any s h hs)
  unfold FindRes at HF
  unfold SyncPost thereC
  cases hlk : look L s.data.toList with
  | none =>
    rw [hlk] at HF
    have HB := hide (begin_any s (evC 30) 30 h hO (Old w) (fun _ hh => hh) hE (.inr ⟨by decide, .inl rfl⟩) (fun b hb => by cases hb) hc hl)
    have hbs := beginS_ne (S := S) (c := 30) (by decide)
    have HX : Hid (∀ w' v', ErrOut (Old w) w' v' (beginS S 30).2 → ∃ b, v' = evW b) := fun w' v' h1 => by
      rcases h1 with ⟨_, h2⟩ | ⟨_, b, hb, _⟩
      · exact absurd h2 hbs.1
      · exact ⟨b, hb⟩
    clear h
    go_enter Tryz.func26, Tryz.ntmps26
    go_wp2_with (first
      | (go_at_call 44; refine (unhide HF).mono ?_; rintro e0 w0 ⟨rfl, rfl⟩)
      | (go_at_call 47; refine (unhide HB).mono ?_; rintro e0 w1 ⟨v1, rfl, he1, hd1, hf1⟩; obtain ⟨b1, rfl⟩ := unhide HX _ _ he1))
    go_ret
    exact ⟨_, L, rfl, he1, hd1, hf1, fun _ => rfl, fun hh => absurd hh hbs.1⟩
  | some e =>
    rw [hlk] at HF
    obtain ⟨hem, hen⟩ := look_mem hlk
    have HB := hide (begin_any s .nilIface 0 h hO (Old w) (fun _ hh => hh) hE (.inl ⟨rfl, rfl⟩) (fun b hb => by cases hb) hc hl)
    by_cases hno : (beginS S 0).2 = 0
    · have HX : Hid (∀ w' v', ErrOut (Old w) w' v' (beginS S 0).2 → v' = .nilIface) := fun w' v' h1 => by
        rcases h1 with ⟨hh, _⟩ | ⟨h2, _⟩
        · exact hh
        · exact absurd hno h2
      have HP : Hid (∀ w1, FrO O w w1 → DK w1 p (beginS S 0).1 mb L O → (∃ a0 k0, w1.cell? ⟨e.fp, 0, none⟩ = some (.slice a0 e.data.length k0)) ∧ w1.cell? ⟨e.fp, 1, none⟩ = some (.int .i64 (e.sure : Int)) ∧ w1.frozen? ⟨e.fp, 1, none⟩ = false ∧
          DK (w1.setCell ⟨e.fp, 1, none⟩ (.int .i64 (e.data.length : Int))) p (beginS S 0).1 mb (repl (syncE e) L) O ∧ FrO O w1 (w1.setCell ⟨e.fp, 1, none⟩ (.int .i64 (e.data.length : Int)))) := by
        intro w1 hf1 hd1
        have hef := hd1.files e hem
        obtain ⟨a0, k0, hv0⟩ := own_v hef
        have hh := dk_sync hd1 (fun k hk => Nat.lt_of_lt_of_le (hO k hk) hf1.size) e hem
        exact ⟨⟨a0, k0, by rw [(cellB hef.blk 0).1, ← hv0]; rfl⟩, by rw [(cellB hef.blk 1).1]; rfl, (cellB hef.blk 1).2, hh.1, hh.2⟩
      clear h
      go_enter Tryz.func26, Tryz.ntmps26
      go_wp2_with (first
        | (go_at_call 44; refine (unhide HF).mono ?_; rintro e0 w0 ⟨rfl, rfl⟩)
        | (go_at_call 47; refine (unhide HB).mono ?_; rintro e0 w1 ⟨v1, rfl, he1, hd1, hf1⟩; have e1 := unhide HX _ _ he1; subst e1; obtain ⟨⟨a0, k0, c0⟩, c1, f1, d2, g2⟩ := unhide HP _ hf1 hd1))
      go_ret
      exact ⟨_, _, rfl, .inl ⟨rfl, hno⟩, d2, FrO.trans hf1 g2 (fun _ _ hh => hh), fun hh => absurd hno hh, fun _ => ⟨e, rfl, rfl⟩⟩
    · have HX : Hid (∀ w' v', ErrOut (Old w) w' v' (beginS S 0).2 → ∃ b, v' = evW b) := fun w' v' h1 => by
        rcases h1 with ⟨_, h2⟩ | ⟨_, b, hb, _⟩
        · exact absurd h2 hno
        · exact ⟨b, hb⟩
      clear h
      go_enter Tryz.func26, Tryz.ntmps26
      go_wp2_with (first
        | (go_at_call 44; refine (unhide HF).mono ?_; rintro e0 w0 ⟨rfl, rfl⟩)
        | (go_at_call 47; refine (unhide HB).mono ?_; rintro e0 w1 ⟨v1, rfl, he1, hd1, hf1⟩; obtain ⟨b1, rfl⟩ := unhide HX _ _ he1))
      go_ret
      exact ⟨_, L, rfl, he1, hd1, hf1, fun _ => rfl, fun hh => absurd hh hno⟩
end Go.Proofs.YtebiekkkmimomaaGreatDoor.Dk
/- What a fall leaves of a file. -/
namespace Go.Proofs.YtebiekkkmimomaaGreatDoor.Dk
open Go.RowKit Go.Lib Go.Maps Go.WideMaps

def shorten : Value → Nat → Value
  | .slice a _ k, n => .slice a n k
  | v, _ => v
/-- How many bytes are left. -/
def leftN (keep : Int) (e : Ent) : Nat := e.sure + min keep.toNat (e.data.length - e.sure)
def fallE (keep : Int) (e : Ent) : Ent := { e with v := shorten e.v (leftN keep e), data := e.data.take (leftN keep e), sure := leftN keep e }
theorem leftN_le {w : World} {e : Ent} (h : FileAt w e) (keep : Int) : leftN keep e ≤ e.data.length := by
  have := h.sure
  unfold leftN; omega
theorem ownBlock_shorten (v : Value) (n : Nat) : (shorten v n).ownBlock = v.ownBlock := by
  cases v <;> try rfl
  rename_i a _ _
  cases a <;> rfl
theorem fall_file {w : World} {e : Ent} (h : FileAt w e) (keep : Int) : FileAt ((w.setCell ⟨e.fp, 1, none⟩ (.int .i64 (leftN keep e : Int))).setCell ⟨e.fp, 0, none⟩ (shorten e.v (leftN keep e))) (fallE keep e) := by
  have hle := leftN_le h keep
  have hne : e.v.ownBlock ≠ some e.fp := by
    intro hx
    rcases h.row.2 with ⟨e1, _⟩ | ⟨g, cap, cur, e1, _, hc, _⟩
    · rw [e1] at hx; simp [Value.ownBlock] at hx
    · rw [e1] at hx; simp [Value.ownBlock] at hx; subst hx; rw [h.blk] at hc; injection hc with hc; injection hc with _ h2; exact absurd h2 (by decide)
  have hlen : (e.data.take (leftN keep e)).length = leftN keep e := by rw [List.length_take]; omega
  refine ⟨heap_setCell_at (heap_setCell_at h.blk 1 _) 0 _, ownsRow_of_same (w := w) ?_ (fun k hk => ?_), ?_, ?_⟩
  · show w.ownsRow 0 5 1 (shorten e.v (leftN keep e)) (e.data.take (leftN keep e)).length (byteCells (e.data.take (leftN keep e)))
    rw [hlen]
    refine ⟨by rw [Lib.byteCells_length, hlen]; omega, ?_⟩
    rcases h.row.2 with ⟨e1, e2⟩ | ⟨g, cap, cur, e1, h0, hc, h1, h2, h3, h4⟩
    · left
      have : leftN keep e = 0 := by omega
      rw [this, e1]; exact ⟨rfl, rfl⟩
    · right
      refine ⟨g, cap, cur, by rw [e1]; rfl, h0, hc, by omega, h2, h3, ?_⟩
      have : cur.toList.take (leftN keep e * 1) = (cur.toList.take (e.data.length * 1)).take (leftN keep e) := by rw [List.take_take]; congr 1; omega
      rw [this, h4]
      unfold byteCells
      rw [List.map_take]
  · have hk : (shorten e.v (leftN keep e)).ownBlock = some k := hk
    rw [ownBlock_shorten] at hk
    have : k ≠ e.fp := fun hx => hne (by rw [← hx]; exact hk)
    rw [heap_setCell_ne 0 _ this, heap_setCell_ne 1 _ this]
  · show leftN keep e ≤ (e.data.take (leftN keep e)).length
    omega
  · show (e.data.take (leftN keep e)).length ≤ 1048576
    have := h.len; omega

set_option maxHeartbeats 3200000 in
set_option maxRecDepth 100000 in
theorem fall_any {w : World} {e : Ent} (keep : Int) (h : FileAt w e) (hk : -9223372036854775808 ≤ keep ∧ keep ≤ 9223372036854775807) :
    Calls Tryz.prog 36 #[.pointer (some ⟨e.fp, 0, none⟩), .int .i64 keep] w fun ev w' => ev = .returned (.tuple #[]) ∧ w'.heap = ((w.setCell ⟨e.fp, 1, none⟩ (.int .i64 (leftN keep e : Int))).setCell ⟨e.fp, 0, none⟩ (shorten e.v (leftN keep e))).heap ∧ Env w w' := by
  have hle := leftN_le h keep
  have hsu := h.sure
  have hlen := h.len
  have c1 : w.cell? ⟨e.fp, 1, none⟩ = some (.int .i64 (e.sure : Int)) := by rw [(cellB h.blk 1).1]; rfl
  have f0 := (cellB h.blk 0).2
  have f1 := (cellB h.blk 1).2
  have c0 : w.cell? ⟨e.fp, 0, none⟩ = some e.v := by rw [(cellB h.blk 0).1]; rfl
  have hrow := h.row.2
  clear h
  generalize hN : leftN keep e = N at *
  have hE : (e.sure : Int) + min (max keep 0) ((e.data.length : Int) - (e.sure : Int)) = (N : Int) := by
    unfold leftN at hN; omega
  clear hN
  generalize e.data.length = n at *
  generalize e.sure = su at *
  generalize e.fp = fp at *
  have hw0 : IntKind.i64.wrap ((n : Int) - (su : Int)) = (n : Int) - (su : Int) := by rw [IntKind.wrap_i64] <;> omega
  have hw1 : IntKind.i64.wrap ((su : Int) + min (max keep 0) ((n : Int) - (su : Int))) = (N : Int) := by rw [hE, IntKind.wrap_i64] <;> omega
  have hw2 : IntKind.i64.wrap (N : Int) = (N : Int) := by rw [IntKind.wrap_i64] <;> omega
  have hN0 : (0 : Int) ≤ (N : Int) := by omega
  rcases hrow with ⟨e1, e2⟩ | ⟨g, cap, cur, e1, _, hc, h1, h2, h3, h4⟩
  · rw [e1] at c0 ⊢
    subst e2
    have h5 : su = 0 := by omega
    subst h5
    have h6 : N = 0 := by omega
    subst h6
    have hz : min (max keep 0) (0 : Int) = 0 := by omega
    go_enter Tryz.func36, Tryz.ntmps36
    go_wp2
    go_region
    all_goals go_wp2
    all_goals go_region
    all_goals go_wp2
    all_goals go_end0
    all_goals exact ⟨rfl, rfl, rfl, rfl, rfl⟩
  · rw [e1] at c0 ⊢
    have hNc : (N : Int) ≤ (cap : Int) := by omega
    clear hc h3 h4
    go_enter Tryz.func36, Tryz.ntmps36
    go_wp2
    go_region
    all_goals go_wp2
    all_goals go_region
    all_goals go_wp2
    all_goals go_end0
    all_goals exact ⟨rfl, rfl, rfl, rfl, rfl⟩
end Go.Proofs.YtebiekkkmimomaaGreatDoor.Dk
