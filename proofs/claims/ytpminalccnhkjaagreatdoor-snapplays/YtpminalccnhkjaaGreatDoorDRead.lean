/- Read: a file's bytes, in a row of their own. -/
import Derived.Test.YtpminalccnhkjaaGreatDoorDAppN
import Derived.Lib.BytesEntry
namespace Go.Proofs.YtpminalccnhkjaaGreatDoor.Dk
open Go.RowKit Go.Lib Go.Maps Go.WideMaps

def readC (S : St) (L : List Ent) (n : List UInt8) : Int := if S.off = true then 32 else match look L n with | some _ => 0 | none => 30

theorem ownsRow_from {w : World} {B : Nat} {T : TypeId} {v : Value} {n : Nat} {xs : List Value} (h : w.ownsRow 0 T 1 v n xs) (hb : ∀ k, v.ownBlock = some k → B ≤ k) : w.ownsRow B T 1 v n xs := by
  obtain ⟨h1, h2 | ⟨g, cap, cur, rfl, _, hc, r⟩⟩ := h
  · exact ⟨h1, .inl h2⟩
  · exact ⟨h1, .inr ⟨g, cap, cur, rfl, hb g rfl, hc, r⟩⟩
theorem rbo_of_row {w : World} {v : Value} {l : List UInt8} (h : w.ownsRow 0 5 1 v l.length (byteCells l)) (hl : l.length ≤ 1000000000) : RBo w (fun _ => False) v l := by
  refine ⟨hl, ?_⟩
  rcases h.2 with ⟨rfl, h0⟩ | ⟨g, cap, cur, rfl, _, hc, h1, h2, h3, h4⟩
  · exact .inl ⟨rfl, List.eq_nil_of_length_eq_zero h0⟩
  · refine .inr ⟨g, 0, cap, (Array.getElem?_eq_some_iff.1 hc).1, id, h1, h2, rfl, fun i hi => ?_⟩
    rw [(cellB hc _).1, Nat.zero_add, ← Array.getElem?_toList]
    have e1 : (cur.toList.take (l.length * 1))[i]? = cur.toList[i]? := List.getElem?_take_of_lt (by omega)
    rw [← e1, h4]
    simp [byteCells, hi]

set_option maxHeartbeats 1600000 in
set_option maxRecDepth 100000 in
theorem clone_own (v : Value) (lb : List UInt8) (w : World) (hv : w.ownsRow 0 5 1 v lb.length (byteCells lb)) (hl : lb.length ≤ 1048576) :
    Calls Tryz.prog 38 #[v] w fun e w' => ∃ v', e = .returned v' ∧ w'.ownsRow w.heap.size 5 1 v' lb.length (byteCells lb) ∧ Below w.heap.size w w' := by
  have hR := rbo_of_row hv (by omega)
  obtain ⟨a, k, rfl⟩ := own_sl hv
  cases a with
  | none =>
    rcases hv.2 with ⟨h1, h2⟩ | ⟨g, cap, cur, h1, _⟩
    · injection h1 with _ h3 h4
      have h5 : lb = [] := List.eq_nil_of_length_eq_zero h2
      subst h5
      subst h4
      have hnil := run_eql_slice_nil_nil (P := Tryz.prog) w 0 0 Tryz.underlying29
      clear hv hR
      go_enter Tryz.func38, Tryz.ntmps38
      go_wp2
      go_ret
      exact ⟨_, rfl, World.ownsRow_nil _ _ _ _, Below.refl _ _⟩
    · cases h1
  | some a =>
    have hb0 : Below w.heap.size w (w.alloc (.cells #[] 5)) := (Below.refl _ _).alloc (Nat.le_refl _) _
    have HO : Hid ((w.alloc (.cells #[] 5)).ownsRow 0 5 1 (.slice (some ⟨w.heap.size, 0, none⟩) 0 0) 0 []) :=
      ⟨rfl, .inr ⟨w.heap.size, 0, #[], rfl, Nat.zero_le _, (MapKept.heap_alloc w _).1, Nat.le_refl _, Nat.zero_le _, rfl, rfl⟩⟩
    have HV := hide (hR.fr (FrO.of_below (O := fun _ => False) hb0))
    have HB0 := hide hb0
    have hnil := run_eql_slice_some_nil (P := Tryz.prog) w a lb.length k Tryz.underlying29
    clear hv hb0 hR
    go_enter Tryz.func38, Tryz.ntmps38
    go_wp2_with (first
      | (at_builtin; refine wpList_append_at rfl _ _ rfl (.slice (some ⟨w.heap.size, 0, none⟩) 0 0) 0 [] rfl (unhide HO) (fun _ => False) _ lb rfl (unhide HV) (by omega) ?_; intro v3 w3 ho3 hg3 hl3; have HO3 := hide ho3; clear ho3))
    go_ret
    have ho3 := unhide HO3
    rw [Nat.zero_add, List.nil_append] at ho3
    have hz : ∀ k, v3.ownBlock = some k → w.heap.size ≤ k := fun k hk => by
      rcases hl3 with hl | hl
      · rw [hl] at hk; simp [Value.ownBlock] at hk; omega
      · rw [hl] at hk; cases hk; simp
    refine ⟨_, rfl, ownsRow_from ho3 hz, (unhide HB0).grown hg3 (by simp) (fun k hk => by simp [Value.ownBlock] at hk; omega)⟩

/-- What Read tells. -/
def ReadPost (w : World) (S : St) (L : List Ent) (n : List UInt8) (e : Ending) (w' : World) : Prop :=
  Below w.heap.size w w' ∧
  ((readC S L n ≠ 0 ∧ ∃ b, e = .returned (.tuple #[.slice none 0 0, evW b]) ∧ ErrW w' b (readC S L n)) ∨
   (readC S L n = 0 ∧ ∃ e0 v, look L n = some e0 ∧ e = .returned (.tuple #[v, .nilIface]) ∧ w'.ownsRow w.heap.size 5 1 v e0.data.length (byteCells e0.data)))

set_option maxHeartbeats 3200000 in
set_option maxRecDepth 100000 in
theorem read_any {w : World} {p : Nat} {S : St} {mb : Option Nat} {L : List Ent} {O : Nat → Prop} (s : ByteArray) (h : DK w p S mb L O) (hE : ET w) (hs : s.size ≤ maxLen) :
    Calls Tryz.prog 14 #[.pointer (some ⟨p, 0, none⟩), .string s] w (ReadPost w S L s.data.toList) := by
  have HF := hide (find_any s h hs)
  unfold FindRes at HF
  obtain ⟨_, _, _, c3, _⟩ := h.cells
  have HW := hide (fun c => within_class s c w hE)
  unfold ReadPost readC
  by_cases ho : S.off = true
  · rw [if_pos ho]
    rw [ho] at c3
    cases hlk : look L s.data.toList with
    | none =>
      rw [hlk] at HF
      clear h
      go_enter Tryz.func14, Tryz.ntmps14
      go_wp2_with (first
        | (go_at_call 24; refine (unhide HF).mono ?_; rintro e0 w0 ⟨rfl, rfl⟩)
        | (go_at_call 37; refine (unhide HW 32).mono ?_; rintro e0 w1 ⟨b1, rfl, hb1, he1, hf1⟩))
      go_ret2
      exact ⟨hf1, .inl ⟨by decide, b1, rfl, he1⟩⟩
    | some e =>
      rw [hlk] at HF
      clear h
      go_enter Tryz.func14, Tryz.ntmps14
      go_wp2_with (first
        | (go_at_call 24; refine (unhide HF).mono ?_; rintro e0 w0 ⟨rfl, rfl⟩)
        | (go_at_call 37; refine (unhide HW 32).mono ?_; rintro e0 w1 ⟨b1, rfl, hb1, he1, hf1⟩))
      go_ret2
      exact ⟨hf1, .inl ⟨by decide, b1, rfl, he1⟩⟩
  · rw [if_neg ho]
    have ho' : S.off = false := by simpa using ho
    rw [ho'] at c3
    cases hlk : look L s.data.toList with
    | none =>
      rw [hlk] at HF
      clear h
      go_enter Tryz.func14, Tryz.ntmps14
      go_wp2_with (first
        | (go_at_call 24; refine (unhide HF).mono ?_; rintro e0 w0 ⟨rfl, rfl⟩)
        | (go_at_call 37; refine (unhide HW 30).mono ?_; rintro e0 w1 ⟨b1, rfl, hb1, he1, hf1⟩))
      go_ret2
      exact ⟨hf1, .inl ⟨by decide, b1, rfl, he1⟩⟩
    | some e =>
      rw [hlk] at HF
      obtain ⟨hem, hen⟩ := look_mem hlk
      have hef := h.files e hem
      have HC := hide (clone_own e.v e.data w hef.row hef.len)
      have cv : w.cell? ⟨e.fp, 0, none⟩ = some e.v := by rw [(cellB hef.blk 0).1]; rfl
      obtain ⟨a0, k0, hv0⟩ := own_v hef
      rw [hv0] at cv HC
      clear h hef
      go_enter Tryz.func14, Tryz.ntmps14
      go_wp2_with (first
        | (go_at_call 24; refine (unhide HF).mono ?_; rintro e0 w0 ⟨rfl, rfl⟩)
        | (go_at_call 38; refine (unhide HC).mono ?_; rintro e0 w1 ⟨v1, rfl, hr1, hf1⟩))
      go_ret2
      exact ⟨hf1, .inr ⟨(by first | rfl | trivial), e, v1, rfl, rfl, hr1⟩⟩
end Go.Proofs.YtpminalccnhkjaaGreatDoor.Dk
