/- Crash: each file falls. -/
import Derived.Test.YthphadbcebeoaaaGreatDoorJDAppNDSyncDFall
namespace Go.Proofs.YthphadbcebeoaaaGreatDoor.Dk
open Go.RowKit Go.Lib Go.Maps Go.WideMaps

/-- The files behind a crash that keeps ks, from place i on. -/
def crashL (ks : List Int) : Nat → List Ent → List Ent
  | _, [] => []
  | i, e :: r => fallE (ks.getD i 0) e :: crashL ks (i + 1) r
theorem crashL_append (ks : List Int) : ∀ (i : Nat) (a b : List Ent), crashL ks i (a ++ b) = crashL ks i a ++ crashL ks (i + a.length) b
  | i, [], b => by simp [crashL]
  | i, e :: r, b => by
    have := crashL_append ks (i + 1) r b
    simp only [List.cons_append, crashL, this, List.length_cons]
    congr 3; omega
theorem length_crashL (ks : List Int) : ∀ (i : Nat) (a : List Ent), (crashL ks i a).length = a.length
  | _, [] => rfl
  | i, e :: r => by simp [crashL, length_crashL ks (i + 1) r]
theorem names_crashL (ks : List Int) : ∀ (i : Nat) (a : List Ent), (crashL ks i a).map (·.name) = a.map (·.name)
  | _, [] => rfl
  | i, e :: r => by simp [crashL, names_crashL ks (i + 1) r, fallE]

/-- A slice that reads as these numbers, in no block of the disk. -/
def KeepAt (w : World) (O : Nat → Prop) (v : Value) (ks : List Int) : Prop :=
  (∀ x ∈ ks, -9223372036854775808 ≤ x ∧ x ≤ 9223372036854775807) ∧ (((∃ a c, v = .slice a 0 c) ∧ ks = []) ∨
    ∃ b off cap, b < w.heap.size ∧ ¬ O b ∧ ks.length ≤ cap ∧ cap ≤ maxLen ∧ v = .slice (some ⟨b, off, none⟩) ks.length cap ∧ ∀ i x, ks[i]? = some x → w.cell? ⟨b, off + i, none⟩ = some (.int .i64 x))
theorem KeepAt.fr {w w' : World} {O : Nat → Prop} {v : Value} {ks : List Int} (h : KeepAt w O v ks) (hf : FrO O w w') : KeepAt w' O v ks := by
  obtain ⟨h1, h2 | ⟨b, off, cap, hb, hn, h3, h4, rfl, hc⟩⟩ := h
  · exact ⟨h1, .inl h2⟩
  · exact ⟨h1, .inr ⟨b, off, cap, Nat.lt_of_lt_of_le hb hf.size, hn, h3, h4, rfl, fun i x hi => (cell_same (hf.blk b hb hn) _).trans (hc i x hi)⟩⟩

/-- One file falls. -/
theorem dk_fall {w w' : World} {p : Nat} {S : St} {mb : Option Nat} {L : List Ent} {O : Nat → Prop} (h : DK w p S mb L O) (hO : ∀ k, O k → k < w.heap.size) (e : Ent) (he : e ∈ L) (keep : Int)
    (hw : w'.heap = ((w.setCell ⟨e.fp, 1, none⟩ (.int .i64 (leftN keep e : Int))).setCell ⟨e.fp, 0, none⟩ (shorten e.v (leftN keep e))).heap) (henv : Env w w') : DK w' p S mb (repl (fallE keep e) L) O ∧ FrO O w w' := by
  have hW : ∀ k : Nat, w'.heap[k]? = ((w.setCell ⟨e.fp, 1, none⟩ (.int .i64 (leftN keep e : Int))).setCell ⟨e.fp, 0, none⟩ (shorten e.v (leftN keep e))).heap[k]? := fun k => by rw [hw]
  have hf := fall_file (h.files e he) keep
  have hf' : FileAt w' (fallE keep e) := ⟨(hW _).trans hf.blk, ownsRow_of_same hf.row (fun k _ => hW k), hf.sure, hf.len⟩
  have hs : ∀ k : Nat, k ≠ e.fp → w'.heap[k]? = w.heap[k]? := fun k hk => by rw [hW, heap_setCell_ne 0 _ hk, heap_setCell_ne 1 _ hk]
  refine ⟨dk_repl h e (fallE keep e) he rfl rfl hf' (fun k hk => hk) (fun k hk => ?_) hO (.inl (ownBlock_shorten _ _)) (fun k _ h1 _ => hs k h1), ⟨?_, fun k _ hn => hs k (fun hh => hn (by rw [hh]; exact h.oF e he)), henv⟩⟩
  · have hk : (shorten e.v (leftN keep e)).ownBlock = some k := hk
    rw [ownBlock_shorten] at hk
    exact h.oR e he k hk
  · rw [hw]; simp

theorem repl_mid {e e' : Ent} {A B : List Ent} (h : Rising (A ++ e :: B)) (hn : e.name = e'.name) : repl e' (A ++ e :: B) = A ++ e' :: B := by
  have hd := h.distinct
  rw [List.pairwise_append] at hd
  obtain ⟨_, h2, h3⟩ := hd
  obtain ⟨h4, _⟩ := List.pairwise_cons.1 h2
  unfold repl
  rw [List.map_append, List.map_cons]
  have hA : A.map (fun x => if x.name == e'.name then e' else x) = A := by
    conv => rhs; rw [← List.map_id A]
    refine List.map_congr_left fun x hx => ?_
    have := h3 x hx e (by simp)
    rw [if_neg (by rw [← hn]; simpa using this)]; rfl
  have hB : B.map (fun x => if x.name == e'.name then e' else x) = B := by
    conv => rhs; rw [← List.map_id B]
    refine List.map_congr_left fun x hx => ?_
    have := h4 x hx
    rw [if_neg (by rw [← hn]; simpa using fun hh => this hh.symm)]; rfl
  rw [hA, hB, if_pos (by simp [hn])]

set_option maxHeartbeats 6400000 in
set_option maxRecDepth 100000 in
theorem crash_any {w : World} {p : Nat} {S : St} {mb : Option Nat} {L : List Ent} {O : Nat → Prop} (kv : Value) (ks : List Int) (h : DK w p S mb L O) (hO : ∀ k, O k → k < w.heap.size) (hk : KeepAt w O kv ks) (hkl : ks.length ≤ 1000000) (hnames : ∀ e ∈ L, e.name.length ≤ 1000) :
    Calls Tryz.prog 13 #[.pointer (some ⟨p, 0, none⟩), .agg #[kv]] w fun ev w' => ev = .returned (.tuple #[]) ∧ DK w' p { S with off := false, halting := false, left := 0 } mb (crashL ks 0 L) O ∧ FrO O w w' := by
  obtain ⟨ka, kc, hkv⟩ : ∃ ka kc, kv = .slice ka ks.length kc := by
    rcases hk.2 with ⟨⟨a, c, rfl⟩, rfl⟩ | ⟨b, off, cap, _, _, _, _, rfl, _⟩
    · exact ⟨a, c, rfl⟩
    · exact ⟨_, _, rfl⟩
  subst hkv
  have hb0 : Below w.heap.size w (w.alloc (.cells #[.slice ka ks.length kc] 25)) := (Below.refl _ _).alloc (Nat.le_refl _) _
  have h0 := h.below hO hb0
  have HL := hide (list_any h0)
  have hfew := h.few
  have hnO : ∀ k, w.heap.size ≤ k → ¬ O k := fun k hk hh => absurd (hO k hh) (by omega)
  have HR : Hid (∀ w1 v1, Below (w.alloc (.cells #[.slice ka ks.length kc] 25)).heap.size (w.alloc (.cells #[.slice ka ks.length kc] 25)) w1 → w1.ownsRow (w.alloc (.cells #[.slice ka ks.length kc] 25)).heap.size 9 1 v1 L.length ((L.map (·.name)).map encStr) →
      DK w1 p S mb L O ∧ FrO O w w1 ∧ ∀ k wr, k < L.length → DK wr p S mb (crashL ks 0 (L.take k) ++ L.drop k) O → FrO O w1 wr →
        ∃ (e : Ent) (b g1 cap1 : Nat), v1 = .slice (some ⟨g1, 0, none⟩) L.length cap1 ∧ wr.cell? ⟨g1, k, none⟩ = some (encStr e.name) ∧ wr.cell? ⟨w.heap.size, 0, none⟩ = some (.slice ka ks.length kc) ∧ wr.cell? ⟨p, 1, none⟩ = some (.map (some b)) ∧
          (Instr.lookup 71 (.map (some b)) (encStr e.name) false).run Tryz.prog wr = .ok (.pointer (some ⟨e.fp, 0, none⟩)) wr ∧
          (∀ x, ks[k]? = some x → ∃ kb off, ka = some ⟨kb, off, none⟩ ∧ wr.cell? ⟨kb, off + k, none⟩ = some (.int .i64 x)) ∧
          Calls Tryz.prog 36 #[.pointer (some ⟨e.fp, 0, none⟩), .int .i64 (ks.getD k 0)] wr fun ev w' => ev = .returned (.tuple #[]) ∧ DK w' p S mb (crashL ks 0 (L.take (k + 1)) ++ L.drop (k + 1)) O ∧ FrO O w1 w') := by
    intro w1 v1 hb1 hr1
    have hd1 := h0.below (fun k hk => by have := hO k hk; simp; omega) hb1
    have hf01 : FrO O w w1 := FrO.of_below (hb0.trans (hb1.mono (by simp)))
    refine ⟨hd1, hf01, fun k wr hkL hdr hfr => ?_⟩
    obtain ⟨e, hek⟩ : ∃ e, L[k]? = some e := ⟨L[k], List.getElem?_eq_getElem hkL⟩
    have hdrop : L.drop k = e :: L.drop (k + 1) := by rw [List.drop_eq_getElem_cons hkL]; congr 1; rw [List.getElem?_eq_getElem hkL] at hek; exact Option.some.inj hek
    have htake : L.take (k + 1) = L.take k ++ [e] := by rw [List.take_add_one, hek]; rfl
    have hmem : e ∈ crashL ks 0 (L.take k) ++ L.drop k := by rw [hdrop]; simp
    have hemL : e ∈ L := List.mem_of_getElem? hek
    have hnl := hnames e hemL
    have hOr : ∀ k, O k → k < wr.heap.size := fun k hk => Nat.lt_of_lt_of_le (hO k hk) (Nat.le_trans hf01.size hfr.size)
    have hb : ∃ b, mb = some b := by
      cases mb with
      | none => rw [h.none rfl] at hkL; simp at hkL
      | some b => exact ⟨b, rfl⟩
    obtain ⟨b, hb⟩ := hb
    rcases hr1.2 with ⟨_, e2⟩ | ⟨g1, cap1, cur, e1, hg1, hc1, h1, h2, h3, h4⟩
    · omega
    refine ⟨e, b, g1, cap1, e1, ?_, ?_, by rw [hdr.cells.2.1, hb], ?_, ?_, ?_⟩
    · have hg1' : w.heap.size ≤ g1 := by simp at hg1; omega
      rw [cell_same (hfr.blk g1 (Array.getElem?_eq_some_iff.1 hc1).1 (hnO g1 hg1')) k, (cellB hc1 k).1, ← Array.getElem?_toList]
      have e3 : (cur.toList.take (L.length * 1))[k]? = cur.toList[k]? := List.getElem?_take_of_lt (by omega)
      rw [← e3, h4]
      simp [hek]
    · have hz : w.heap.size < (w.alloc (.cells #[.slice ka ks.length kc] 25)).heap.size := by simp
      rw [cell_same (hfr.blk _ (Nat.lt_of_lt_of_le hz hb1.size) (hnO _ (Nat.le_refl _))) 0, hb1.cell (p := ⟨w.heap.size, 0, none⟩) hz]
      simp
    · have hkey := keyOf_string_mk (P := Tryz.prog) (k := 9) Tryz.underlying9 (s := ⟨e.name.toArray⟩) (by show e.name.toArray.size ≤ maxLen; unfold maxLen; simp; omega)
      obtain ⟨v, ps, hrun, hv⟩ := (hdr.some b hb).lookup Tryz.law Tryz.underlying71 (Tryz.zeroP wr) (zd := .nil) (zp := []) rfl hkey
      rw [atKey_DL] at hv
      have hl : look (crashL ks 0 (L.take k) ++ L.drop k) e.name = some e := look_of_mem hdr.rising hmem
      simp only at hv
      rw [hl] at hv
      have := RP_held hv
      subst this
      exact hrun
    · intro x hx
      rcases hk.2 with ⟨_, rfl⟩ | ⟨kb, off, cap, hkb, hkn, _, _, hkv, hkc⟩
      · simp at hx
      · injection hkv with hka _ _
        refine ⟨kb, off, hka, ?_⟩
        rw [cell_same (hfr.blk kb (Nat.lt_of_lt_of_le hkb hf01.size) hkn) _, cell_same (hf01.blk kb hkb hkn) _]
        exact hkc k x hx
    · have hfile := hdr.files e hmem
      have hrange : -9223372036854775808 ≤ ks.getD k 0 ∧ ks.getD k 0 ≤ 9223372036854775807 := by
        by_cases hkk : k < ks.length
        · have := hk.1 (ks.getD k 0) (by rw [List.getD_eq_getElem?_getD, List.getElem?_eq_getElem hkk]; exact List.getElem_mem hkk)
          exact this
        · rw [List.getD_eq_getElem?_getD, List.getElem?_eq_none (by omega)]; decide
      refine (fall_any (ks.getD k 0) hfile hrange).mono ?_
      rintro ev w' ⟨rfl, hw', henv⟩
      obtain ⟨hd', hf'⟩ := dk_fall hdr hOr e hmem (ks.getD k 0) hw' henv
      refine ⟨rfl, ?_, FrO.trans hfr hf' (fun _ _ hh => hh)⟩
      have hris := hdr.rising
      rw [hdrop] at hris hd'
      rw [repl_mid (e' := fallE (ks.getD k 0) e) hris rfl] at hd'
      rw [htake, crashL_append]
      have hlk : (L.take k).length = k := by rw [List.length_take]; omega
      simp only [crashL, hlk, Nat.zero_add, List.append_assoc, List.cons_append, List.nil_append]
      exact hd'
  clear hb0 h0 hnames hk
  have hH := hide h
  clear h
  go_enter Tryz.func13, Tryz.ntmps13
  go_wp2_with (first | (go_at_call 35; refine (unhide HL).mono ?_; rintro e0 w1 ⟨v1, rfl, hr1, hb1⟩; obtain ⟨hd1, hf1, HR1⟩ := unhide HR _ _ hb1 hr1; obtain ⟨a1, k1, rfl⟩ := own_sl hr1; have HRR := hide HR1; clear HR1 HR hr1 hb1))
  have hd1' := hide hd1
  have hf1' := hide hf1
  clear hd1 hf1
  go_loopw [10] (fun i wr => ∃ k : Nat, k ≤ L.length ∧ i = .int .i64 k ∧ Hid (DK wr p S mb (crashL ks 0 (L.take k) ++ L.drop k) O ∧ FrO O w1 wr)) (fun i _ => L.length - (intOf i).toNat)
  case atStart => exact ⟨0, by omega, rfl, by simpa [crashL] using unhide hd1', FrO.refl _ _⟩
  case round =>
    obtain ⟨k, hkl2, rfl, hrl⟩ := hrel
    by_cases hlt : k < L.length
    · obtain ⟨e, b, g1, cap1, hv1, q1, q2, q3, q4, q5, q6⟩ := unhide HRR k wr hlt (unhide hrl).1 (unhide hrl).2
      injection hv1 with hv1 _ hv2
      subst hv1
      subst hv2
      have hki : (k : Int) < (L.length : Int) := by omega
      have hk0 : (0 : Int) ≤ (k : Int) := by omega
      have Q6 := hide q6
      clear q6
      by_cases hkk : k < ks.length
      · obtain ⟨x, hx⟩ : ∃ x, ks[k]? = some x := ⟨ks[k], List.getElem?_eq_getElem hkk⟩
        obtain ⟨kb, off, hka, q7⟩ := q5 x hx
        have hxd : ks.getD k 0 = x := by rw [List.getD_eq_getElem?_getD, hx]; rfl
        rw [hxd] at Q6
        subst hka
        have hkk' : (k : Int) < (ks.length : Int) := by omega
        clear q5
        go_wp2_with (first | (go_at_call 36; refine (unhide Q6).mono ?_; rintro e0 w2 ⟨rfl, hd2, hf2⟩))
        go_roundw
        case rel => exact ⟨k + 1, by omega, by go_num, hd2, hf2⟩
        case measure => simp [intOf]; omega
      · have hxd : ks.getD k 0 = 0 := by rw [List.getD_eq_getElem?_getD, List.getElem?_eq_none (by omega)]; rfl
        rw [hxd] at Q6
        have hkk' : ¬ ((k : Int) < (ks.length : Int)) := by omega
        clear q5
        go_wp2_with (first | (go_at_call 36; refine (unhide Q6).mono ?_; rintro e0 w2 ⟨rfl, hd2, hf2⟩))
        go_roundw
        case rel => exact ⟨k + 1, by omega, by go_num, hd2, hf2⟩
        case measure => simp [intOf]; omega
    · have hki : ¬ ((k : Int) < (L.length : Int)) := by omega
      have hkL : k = L.length := by omega
      subst hkL
      have hd9 : DK wr p S mb (crashL ks 0 L) O := by simpa using (unhide hrl).1
      obtain ⟨_, _, _, z3, z4, z5⟩ := hd9.cells
      have y3 := hd9.frz 3
      have y4 := hd9.frz 4
      have y5 := hd9.frz 5
      have hD9 := hide hd9
      clear hd9 HRR
      go_wp2
      go_end0
      have hd9 := unhide hD9
      refine ⟨rfl, halt_same hd9 _ (fun k hk => ((heap_setCell_ne _ _ hk).trans (heap_setCell_ne _ _ hk)).trans (heap_setCell_ne _ _ hk)) (heap_setCell_at (heap_setCell_at (heap_setCell_at hd9.disk 3 _) 4 _) 5 _), ?_⟩
      exact FrO.trans (unhide hf1') ((((unhide hrl).2.set hd9.oP 3 _).set hd9.oP 4 _).set hd9.oP 5 _) (fun _ _ hh => hh)
end Go.Proofs.YthphadbcebeoaaaGreatDoor.Dk
/- Truncate, Remove. -/
namespace Go.Proofs.YthphadbcebeoaaaGreatDoor.Dk
open Go.RowKit Go.Lib Go.Maps Go.WideMaps

def cutE (n : Nat) (e : Ent) : Ent := { e with v := shorten e.v n, data := e.data.take n, sure := min e.sure n }
theorem FileAt.ne {w : World} {e : Ent} (h : FileAt w e) : e.v.ownBlock ≠ some e.fp := by
  intro hx
  rcases h.row.2 with ⟨e1, _⟩ | ⟨g, cap, cur, e1, _, hc, _⟩
  · rw [e1] at hx; simp [Value.ownBlock] at hx
  · rw [e1] at hx; simp [Value.ownBlock] at hx; subst hx; rw [h.blk] at hc; injection hc with hc; injection hc with _ h2; exact absurd h2 (by decide)
theorem cut_file {w : World} {e : Ent} (h : FileAt w e) (n : Nat) (hn : n ≤ e.data.length) : FileAt ((w.setCell ⟨e.fp, 0, none⟩ (shorten e.v n)).setCell ⟨e.fp, 1, none⟩ (.int .i64 ((min e.sure n : Nat) : Int))) (cutE n e) := by
  have hne := h.ne
  have hlen : (e.data.take n).length = n := by rw [List.length_take]; omega
  refine ⟨heap_setCell_at (heap_setCell_at h.blk 0 _) 1 _, ownsRow_of_same (w := w) ?_ (fun k hk => ?_), ?_, ?_⟩
  · show w.ownsRow 0 5 1 (shorten e.v n) (e.data.take n).length (byteCells (e.data.take n))
    rw [hlen]
    refine ⟨by rw [Lib.byteCells_length, hlen]; omega, ?_⟩
    rcases h.row.2 with ⟨e1, e2⟩ | ⟨g, cap, cur, e1, h0, hc, h1, h2, h3, h4⟩
    · left
      have : n = 0 := by omega
      rw [this, e1]; exact ⟨rfl, rfl⟩
    · right
      refine ⟨g, cap, cur, by rw [e1]; rfl, h0, hc, by omega, h2, h3, ?_⟩
      have : cur.toList.take (n * 1) = (cur.toList.take (e.data.length * 1)).take n := by rw [List.take_take]; congr 1; omega
      rw [this, h4]
      unfold byteCells
      rw [List.map_take]
  · have hk : (shorten e.v n).ownBlock = some k := hk
    rw [ownBlock_shorten] at hk
    have : k ≠ e.fp := fun hx => hne (by rw [← hx]; exact hk)
    rw [heap_setCell_ne 1 _ this, heap_setCell_ne 0 _ this]
  · show min e.sure n ≤ (e.data.take n).length
    omega
  · show (e.data.take n).length ≤ 1048576
    have := h.len; omega
theorem dk_cut {w : World} {p : Nat} {S : St} {mb : Option Nat} {L : List Ent} {O : Nat → Prop} (h : DK w p S mb L O) (hO : ∀ k, O k → k < w.heap.size) (e : Ent) (he : e ∈ L) (n : Nat) (hn : n ≤ e.data.length) :
    DK ((w.setCell ⟨e.fp, 0, none⟩ (shorten e.v n)).setCell ⟨e.fp, 1, none⟩ (.int .i64 ((min e.sure n : Nat) : Int))) p S mb (repl (cutE n e) L) O ∧ FrO O w ((w.setCell ⟨e.fp, 0, none⟩ (shorten e.v n)).setCell ⟨e.fp, 1, none⟩ (.int .i64 ((min e.sure n : Nat) : Int))) := by
  have hb : (cutE n e).v.ownBlock = e.v.ownBlock := ownBlock_shorten e.v n
  exact ⟨dk_repl h e (cutE n e) he rfl rfl (cut_file (h.files e he) n hn) (fun k hk => hk) (fun k hk => h.oR e he k (by rw [← hb]; exact hk)) hO (.inl hb) (fun k _ h1 _ => by rw [heap_setCell_ne 1 _ h1, heap_setCell_ne 0 _ h1]),
    ((FrO.refl O w).set (h.oF e he) 0 _).set (h.oF e he) 1 _⟩

def truncC (L : List Ent) (nm : List UInt8) (n : Int) : Int := match look L nm with | some e => if 0 ≤ n ∧ n ≤ (e.data.length : Int) then 0 else 40 | none => 30
/-- What Truncate leaves. -/
def TruncPost (w : World) (p : Nat) (S : St) (mb : Option Nat) (L : List Ent) (O : Nat → Prop) (nm : List UInt8) (n : Int) (e : Ending) (w' : World) : Prop :=
  ∃ v L', e = .returned v ∧ ErrOut (Old w) w' v (beginS S (truncC L nm n)).2 ∧ DK w' p (beginS S (truncC L nm n)).1 mb L' O ∧ FrO O w w' ∧
    ((beginS S (truncC L nm n)).2 ≠ 0 → L' = L) ∧ ((beginS S (truncC L nm n)).2 = 0 → ∃ e', look L nm = some e' ∧ L' = repl (cutE n.toNat e') L)

set_option maxHeartbeats 6400000 in
set_option maxRecDepth 100000 in
theorem trunc_any {w : World} {p : Nat} {S : St} {mb : Option Nat} {L : List Ent} {O : Nat → Prop} (s : ByteArray) (n : Int) (h : DK w p S mb L O) (hO : ∀ k, O k → k < w.heap.size) (hE : ET w) (hs : s.size ≤ maxLen) (hn : -9223372036854775808 ≤ n ∧ n ≤ 9223372036854775807)
    (hc : 0 ≤ S.count ∧ S.count < 1000000000) (hl : S.halting = true → 0 ≤ S.left ∧ S.left < 9223372036854775808) :
    Calls Tryz.prog 56 #[.pointer (some ⟨p, 0, none⟩), .string s, .int .i64 n] w (TruncPost w p S mb L O s.data.toList n) := by
  have HF := hide (find_any s h hs)
  unfold FindRes at HF
  unfold TruncPost truncC
  cases hlk : look L s.data.toList with
  | none =>
    rw [hlk] at HF
    have HB := hide (begin_any s (evC 30) 30 h hO (Old w) (fun _ hh => hh) hE (.inr ⟨by decide, .inl rfl⟩) (fun b hb => by cases hb) hc hl)
    have hbs := beginS_ne (S := S) (c := 30) (by decide)
    have HX : Hid (∀ w' v', ErrOut (Old w) w' v' (beginS S 30).2 → ∃ b, v' = evW b) := fun w' v' h1 => by
      rcases h1 with ⟨_, h2⟩ | ⟨_, b, hb, _⟩
      · exact absurd h2 hbs.1
      · exact ⟨b, hb⟩
    clear h
    go_enter Tryz.func56, Tryz.ntmps56
    go_wp2_with (first
      | (go_at_call 44; refine (unhide HF).mono ?_; rintro e0 w0 ⟨rfl, rfl⟩)
      | (go_at_call 47; refine (unhide HB).mono ?_; rintro e0 w1 ⟨v1, rfl, he1, hd1, hf1⟩; obtain ⟨b1, rfl⟩ := unhide HX _ _ he1))
    go_ret
    exact ⟨_, L, rfl, he1, hd1, hf1, fun _ => rfl, fun hh => absurd hh hbs.1⟩
  | some e =>
    rw [hlk] at HF
    obtain ⟨hem, hen⟩ := look_mem hlk
    have hef0 := h.files e hem
    obtain ⟨a0, k0, hv0⟩ := own_v hef0
    have c00 : w.cell? ⟨e.fp, 0, none⟩ = some (.slice a0 e.data.length k0) := by rw [(cellB hef0.blk 0).1, ← hv0]; rfl
    have hlen := hef0.len
    by_cases hin : 0 ≤ n ∧ n ≤ (e.data.length : Int)
    · simp only [if_pos hin]
      obtain ⟨m, rfl⟩ := Int.eq_ofNat_of_zero_le hin.1
      have hm : m ≤ e.data.length := by omega
      have hmi : (m : Int) ≤ (e.data.length : Int) := hin.2
      have hm1 : ¬ (e.data.length : Int) < (m : Int) := by omega
      have HB := hide (begin_any s .nilIface 0 h hO (Old w) (fun _ hh => hh) hE (.inl ⟨rfl, rfl⟩) (fun b hb => by cases hb) hc hl)
      by_cases hno : (beginS S 0).2 = 0
      · have HX : Hid (∀ w' v', ErrOut (Old w) w' v' (beginS S 0).2 → v' = .nilIface) := fun w' v' h1 => by
          rcases h1 with ⟨hh, _⟩ | ⟨h2, _⟩
          · exact hh
          · exact absurd hno h2
        have hk0 : m ≤ k0 := by
          rcases hef0.row.2 with ⟨e1, e2⟩ | ⟨g, cap, cur, e1, _, _, h1, h2, _⟩
          · omega
          · rw [hv0] at e1; cases e1; omega
        have hki : (m : Int) ≤ (k0 : Int) := by omega
        have hsl : ∀ w1 : World, w1.cell? ⟨e.fp, 0, none⟩ = some e.v → w1.cell? ⟨e.fp, 0, none⟩ = some (.slice a0 e.data.length k0) := fun w1 hh => by rw [hh, hv0]
        have HP : Hid (∀ w1, FrO O w w1 → DK w1 p (beginS S 0).1 mb L O → w1.cell? ⟨e.fp, 0, none⟩ = some (.slice a0 e.data.length k0) ∧ w1.cell? ⟨e.fp, 1, none⟩ = some (.int .i64 (e.sure : Int)) ∧ w1.frozen? ⟨e.fp, 1, none⟩ = false ∧ w1.frozen? ⟨e.fp, 0, none⟩ = false ∧
            DK ((w1.setCell ⟨e.fp, 0, none⟩ (.slice a0 m k0)).setCell ⟨e.fp, 1, none⟩ (.int .i64 (min (e.sure : Int) (m : Int)))) p (beginS S 0).1 mb (repl (cutE m e) L) O ∧ FrO O w1 ((w1.setCell ⟨e.fp, 0, none⟩ (.slice a0 m k0)).setCell ⟨e.fp, 1, none⟩ (.int .i64 (min (e.sure : Int) (m : Int))))) := by
          intro w1 hf1 hd1
          have hef := hd1.files e hem
          have hh := dk_cut hd1 (fun k hk => Nat.lt_of_lt_of_le (hO k hk) hf1.size) e hem m hm
          have hvm : shorten e.v m = .slice a0 m k0 := by rw [hv0]; rfl
          have hmin : ((min e.sure m : Nat) : Int) = min (e.sure : Int) (m : Int) := by omega
          rw [hvm, hmin] at hh
          exact ⟨by rw [(cellB hef.blk 0).1, ← hv0]; rfl, by rw [(cellB hef.blk 1).1]; rfl, (cellB hef.blk 1).2, (cellB hef.blk 0).2, hh.1, hh.2⟩
        have hsu := hef0.sure
        clear h hef0 hsl hin
        generalize hsure : (e.sure : Int) = su at *
        generalize hfp : e.fp = fp at *
        go_enter Tryz.func56, Tryz.ntmps56
        go_wp2_with (first
          | (go_at_call 44; refine (unhide HF).mono ?_; rintro e0 w0 ⟨rfl, rfl⟩)
          | (go_at_call 47; refine (unhide HB).mono ?_; rintro e0 w1 ⟨v1, rfl, he1, hd1, hf1⟩; have e1 := unhide HX _ _ he1; subst e1; obtain ⟨c0, c1, f1, f0, d2, g2⟩ := unhide HP _ hf1 hd1))
        go_region
        all_goals go_wp2
        all_goals go_ret
        all_goals exact ⟨_, _, rfl, .inl ⟨rfl, hno⟩, d2.same (fun k _ => rfl), FrO.trans hf1 (FrO.trans g2 (FrO.of_below (O := O) ((Below.refl _ _).drew)) (fun _ _ hh => hh)) (fun _ _ hh => hh), fun hh => absurd hno hh, fun _ => ⟨e, rfl, by simp⟩⟩
      · have HX : Hid (∀ w' v', ErrOut (Old w) w' v' (beginS S 0).2 → ∃ b, v' = evW b) := fun w' v' h1 => by
          rcases h1 with ⟨_, h2⟩ | ⟨_, b, hb, _⟩
          · exact absurd h2 hno
          · exact ⟨b, hb⟩
        clear h hef0 hin
        go_enter Tryz.func56, Tryz.ntmps56
        go_wp2_with (first
          | (go_at_call 44; refine (unhide HF).mono ?_; rintro e0 w0 ⟨rfl, rfl⟩)
          | (go_at_call 47; refine (unhide HB).mono ?_; rintro e0 w1 ⟨v1, rfl, he1, hd1, hf1⟩; obtain ⟨b1, rfl⟩ := unhide HX _ _ he1))
        go_ret
        exact ⟨_, L, rfl, he1, hd1, hf1, fun _ => rfl, fun hh => absurd hh hno⟩
    · simp only [if_neg hin]
      have HB := hide (begin_any s (evC 40) 40 h hO (Old w) (fun _ hh => hh) hE (.inr ⟨by decide, .inl rfl⟩) (fun b hb => by cases hb) hc hl)
      have hbs := beginS_ne (S := S) (c := 40) (by decide)
      have HX : Hid (∀ w' v', ErrOut (Old w) w' v' (beginS S 40).2 → ∃ b, v' = evW b) := fun w' v' h1 => by
        rcases h1 with ⟨_, h2⟩ | ⟨_, b, hb, _⟩
        · exact absurd h2 hbs.1
        · exact ⟨b, hb⟩
      clear h hef0
      by_cases hneg : n < 0
      · go_enter Tryz.func56, Tryz.ntmps56
        go_wp2_with (first
          | (go_at_call 44; refine (unhide HF).mono ?_; rintro e0 w0 ⟨rfl, rfl⟩)
          | (go_at_call 47; refine (unhide HB).mono ?_; rintro e0 w1 ⟨v1, rfl, he1, hd1, hf1⟩; obtain ⟨b1, rfl⟩ := unhide HX _ _ he1))
        go_ret
        exact ⟨_, L, rfl, he1, hd1, hf1, fun _ => rfl, fun hh => absurd hh hbs.1⟩
      · have hgt : (e.data.length : Int) < n := by omega
        go_enter Tryz.func56, Tryz.ntmps56
        go_wp2_with (first
          | (go_at_call 44; refine (unhide HF).mono ?_; rintro e0 w0 ⟨rfl, rfl⟩)
          | (go_at_call 47; refine (unhide HB).mono ?_; rintro e0 w1 ⟨v1, rfl, he1, hd1, hf1⟩; obtain ⟨b1, rfl⟩ := unhide HX _ _ he1))
        go_ret
        exact ⟨_, L, rfl, he1, hd1, hf1, fun _ => rfl, fun hh => absurd hh hbs.1⟩
end Go.Proofs.YthphadbcebeoaaaGreatDoor.Dk
