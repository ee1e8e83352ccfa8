/- Remove. -/
import Derived.Test.YtpminalccnhkjaaGreatDoorDCrash
namespace Go.Proofs.YtpminalccnhkjaaGreatDoor.Dk
open Go.RowKit Go.Lib Go.Maps Go.WideMaps

theorem dk_del {w w' : World} {p b n : Nat} {S : St} {L : List Ent} {O : Nat → Prop} (h : DK w p S (some b) L O) (nm : List UInt8) (hown : w'.ownsMap Tryz.prog 9 RP b n ((DL L).del (.string nm))) (ht : w.mapTurned w' b) : DK w' p S (some b) (delE nm L) O := by
  rw [del_DL] at hown
  refine ⟨?_, fun hh => (by cases hh), fun b' hb' => ?_, fun x hx => file_kept (h.files x (mem_delE.1 hx).1) ht, h.apart.filter _, Nat.le_trans (List.length_filter_le _ _) h.few, h.oP, h.oM, fun x hx => h.oF x (mem_delE.1 hx).1, fun x hx => h.oR x (mem_delE.1 hx).1⟩
  · obtain ⟨es, clock, es', clock', hb, rfl⟩ := ht
    rw [ChangeMaps.heap_setBlock_other hb _ (by rintro rfl; have := h.disk; rw [hb] at this; cases this)]
    exact h.disk
  · cases hb'
    exact ownsMap_tight hown

/-- What Remove leaves. -/
def RemPost (w : World) (p : Nat) (S : St) (mb : Option Nat) (L : List Ent) (O : Nat → Prop) (n : List UInt8) (e : Ending) (w' : World) : Prop :=
  ∃ v L', e = .returned v ∧ ErrOut (Old w) w' v (beginS S (thereC L n)).2 ∧ DK w' p (beginS S (thereC L n)).1 mb L' O ∧ FrO O w w' ∧
    ((beginS S (thereC L n)).2 ≠ 0 → L' = L) ∧ ((beginS S (thereC L n)).2 = 0 → L' = delE n L)

set_option maxHeartbeats 3200000 in
set_option maxRecDepth 100000 in
theorem remove_any {w : World} {p : Nat} {S : St} {mb : Option Nat} {L : List Ent} {O : Nat → Prop} (s : ByteArray) (h : DK w p S mb L O) (hO : ∀ k, O k → k < w.heap.size) (hE : ET w) (hs : s.size ≤ maxLen)
    (hc : 0 ≤ S.count ∧ S.count < 1000000000) (hl : S.halting = true → 0 ≤ S.left ∧ S.left < 9223372036854775808) :
    Calls Tryz.prog 48 #[.pointer (some ⟨p, 0, none⟩), .string s] w (RemPost w p S mb L O s.data.toList) := by
  have HF := hide (find_any s h hs)
  have hkey := keyOf_string_mk (P := Tryz.prog) (k := 9) Tryz.underlying9 hs
  unfold FindRes at HF
  unfold RemPost thereC
  cases hlk : look L s.data.toList with
  | none =>
    rw [hlk] at HF
    have HB := hide (begin_any s (evC 30) 30 h hO (Old w) (fun _ hh => hh) hE (.inr ⟨by decide, .inl rfl⟩) (fun b hb => by cases hb) hc hl)
    have hbs := beginS_ne (S := S) (c := 30) (by decide)
    have HX : Hid (∀ w' v', ErrOut (Old w) w' v' (beginS S 30).2 → ∃ b, v' = evW b) := fun w' v' h1 => by
      rcases h1 with ⟨_, h2⟩ | ⟨_, b, hb, _⟩
      · exact absurd h2 hbs.1
      · exact ⟨b, hb⟩
    clear h
    go_enter Tryz.func48, Tryz.ntmps48
    go_wp2_with (first
      | (go_at_call 24; refine (unhide HF).mono ?_; rintro e0 w0 ⟨rfl, rfl⟩)
      | (go_at_call 28; refine (unhide HB).mono ?_; rintro e0 w1 ⟨v1, rfl, he1, hd1, hf1⟩; obtain ⟨b1, rfl⟩ := unhide HX _ _ he1))
    go_ret
    exact ⟨_, L, rfl, he1, hd1, hf1, fun _ => rfl, fun hh => absurd hh hbs.1⟩
  | some e =>
    rw [hlk] at HF
    obtain ⟨hem, hen⟩ := look_mem hlk
    have HB := hide (begin_any s .nilIface 0 h hO (Old w) (fun _ hh => hh) hE (.inl ⟨rfl, rfl⟩) (fun b hb => by cases hb) hc hl)
    by_cases hno : (beginS S 0).2 = 0
    · have HX : Hid (∀ w' v', ErrOut (Old w) w' v' (beginS S 0).2 → v' = .nilIface) := fun w' v' h1 => by
        rcases h1 with ⟨hh, _⟩ | ⟨h2, _⟩
        · exact hh
        · exact absurd hno h2
      obtain ⟨b, rfl⟩ : ∃ b, mb = some b := by
        cases mb with
        | none => rw [h.none rfl] at hem; cases hem
        | some b => exact ⟨b, rfl⟩
      have HP : Hid (∀ w1, FrO O w w1 → DK w1 p (beginS S 0).1 (some b) L O → w1.cell? ⟨p, 1, none⟩ = some (.map (some b)) ∧ w1.ownsMap Tryz.prog 9 RP b L.length (DL L) ∧
          ∀ w2, w2.ownsMap Tryz.prog 9 RP b L.length ((DL L).del (.string s.data.toList)) → w1.mapTurned w2 b → DK w2 p (beginS S 0).1 (some b) (delE s.data.toList L) O ∧ FrO O w1 w2) := by
        intro w1 hf1 hd1
        exact ⟨hd1.cells.2.1, hd1.some b rfl, fun w2 ho ht => ⟨dk_del hd1 _ ho ht, FrO.turned ht (hd1.oM b rfl)⟩⟩
      clear h
      go_enter Tryz.func48, Tryz.ntmps48
      go_wp2_with (first
        | (go_at_call 24; refine (unhide HF).mono ?_; rintro e0 w0 ⟨rfl, rfl⟩)
        | (go_at_call 28; refine (unhide HB).mono ?_; rintro e0 w1 ⟨v1, rfl, he1, hd1, hf1⟩; have e1 := unhide HX _ _ he1; subst e1; obtain ⟨c1, m1, p1⟩ := unhide HP _ hf1 hd1; have P1 := hide p1; clear p1)
        | (at_delete; refine wpList_delete_own _ rfl _ _ 64 9 rfl 67 Tryz.law Tryz.underlying64 _ b L.length (DL L) rfl m1 _ _ rfl hkey ?_; intro w2 ho2 ht2; obtain ⟨d2, g2⟩ := unhide P1 w2 ho2 ht2))
      go_ret
      exact ⟨_, _, rfl, .inl ⟨rfl, hno⟩, d2, FrO.trans hf1 g2 (fun _ _ hh => hh), fun hh => absurd hno hh, fun _ => rfl⟩
    · have HX : Hid (∀ w' v', ErrOut (Old w) w' v' (beginS S 0).2 → ∃ b, v' = evW b) := fun w' v' h1 => by
        rcases h1 with ⟨_, h2⟩ | ⟨_, b, hb, _⟩
        · exact absurd h2 hno
        · exact ⟨b, hb⟩
      clear h
      go_enter Tryz.func48, Tryz.ntmps48
      go_wp2_with (first
        | (go_at_call 24; refine (unhide HF).mono ?_; rintro e0 w0 ⟨rfl, rfl⟩)
        | (go_at_call 28; refine (unhide HB).mono ?_; rintro e0 w1 ⟨v1, rfl, he1, hd1, hf1⟩; obtain ⟨b1, rfl⟩ := unhide HX _ _ he1))
      go_ret
      exact ⟨_, L, rfl, he1, hd1, hf1, fun _ => rfl, fun hh => absurd hh hno⟩
end Go.Proofs.YtpminalccnhkjaaGreatDoor.Dk
