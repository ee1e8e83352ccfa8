/- Read: a file's bytes, in a row of their own. -/
import Derived.Test.YthphadbcebeoaaaGreatDoorJDAppNDSyncDFall
import Derived.Lib.BytesEntry
import Derived.Test.YthphadbcebeoaaaGreatDoorJDCrashDTrunc
namespace Go.Proofs.YthphadbcebeoaaaGreatDoor.Dk
open Go.RowKit Go.Lib Go.Maps Go.WideMaps

def readC (S : St) (L : List Ent) (n : List UInt8) : Int := if S.off = true then 32 else match look L n with | some _ => 0 | none => 30

theorem ownsRow_from {w : World} {B : Nat} {T : TypeId} {v : Value} {n : Nat} {xs : List Value} (h : w.ownsRow 0 T 1 v n xs) (hb : ∀ k, v.ownBlock = some k → B ≤ k) : w.ownsRow B T 1 v n xs := by
  obtain ⟨h1, h2 | ⟨g, cap, cur, rfl, _, hc, r⟩⟩ := h
  · exact ⟨h1, .inl h2⟩
  · exact ⟨h1, .inr ⟨g, cap, cur, rfl, hb g rfl, hc, r⟩⟩
theorem rbo_of_row {w : World} {v : Value} {l : List UInt8} (h : w.ownsRow 0 5 1 v l.length (byteCells l)) (hl : l.length ≤ 1000000000) : RBo w (fun _ => False) v l := by
  refine ⟨hl, ?_⟩
  rcases h.2 with ⟨rfl, h0⟩ | ⟨g, cap, cur, rfl, _, hc, h1, h2, h3, h4⟩
  · exact .inl ⟨rfl, List.eq_nil_of_length_eq_zero h0⟩
  · refine .inr ⟨g, 0, cap, (Array.getElem?_eq_some_iff.1 hc).1, id, h1, h2, rfl, fun i hi => ?_⟩
    rw [(cellB hc _).1, Nat.zero_add, ← Array.getElem?_toList]
    have e1 : (cur.toList.take (l.length * 1))[i]? = cur.toList[i]? := List.getElem?_take_of_lt (by omega)
    rw [← e1, h4]
    simp [byteCells, hi]

set_option maxHeartbeats 1600000 in
set_option maxRecDepth 100000 in
theorem clone_own (v : Value) (lb : List UInt8) (w : World) (hv : w.ownsRow 0 5 1 v lb.length (byteCells lb)) (hl : lb.length ≤ 1048576) :
    Calls Tryz.prog 50 #[v] w fun e w' => ∃ v', e = .returned v' ∧ w'.ownsRow w.heap.size 5 1 v' lb.length (byteCells lb) ∧ Below w.heap.size w w' := by
  have hR := rbo_of_row hv (by omega)
  obtain ⟨a, k, rfl⟩ := own_sl hv
  cases a with
  | none =>
    rcases hv.2 with ⟨h1, h2⟩ | ⟨g, cap, cur, h1, _⟩
    · injection h1 with _ h3 h4
      have h5 : lb = [] := List.eq_nil_of_length_eq_zero h2
      subst h5
      subst h4
      have hnil := run_eql_slice_nil_nil (P := Tryz.prog) w 0 0 Tryz.underlying22
      clear hv hR
      go_enter Tryz.func50, Tryz.ntmps50
      go_wp2
      go_ret
      exact ⟨_, rfl, World.ownsRow_nil _ _ _ _, Below.refl _ _⟩
    · cases h1
  | some a =>
    have hb0 : Below w.heap.size w (w.alloc (.cells #[] 5)) := (Below.refl _ _).alloc (Nat.le_refl _) _
    have HO : Hid ((w.alloc (.cells #[] 5)).ownsRow 0 5 1 (.slice (some ⟨w.heap.size, 0, none⟩) 0 0) 0 []) :=
      ⟨rfl, .inr ⟨w.heap.size, 0, #[], rfl, Nat.zero_le _, (MapKept.heap_alloc w _).1, Nat.le_refl _, Nat.zero_le _, rfl, rfl⟩⟩
    have HV := hide (hR.fr (FrO.of_below (O := fun _ => False) hb0))
    have HB0 := hide hb0
    have hnil := run_eql_slice_some_nil (P := Tryz.prog) w a lb.length k Tryz.underlying22
    clear hv hb0 hR
    go_enter Tryz.func50, Tryz.ntmps50
    go_wp2_with (first
      | (at_builtin; refine wpList_append_at rfl _ _ rfl (.slice (some ⟨w.heap.size, 0, none⟩) 0 0) 0 [] rfl (unhide HO) (fun _ => False) _ lb rfl (unhide HV) (by omega) ?_; intro v3 w3 ho3 hg3 hl3; have HO3 := hide ho3; clear ho3))
    go_ret
    have ho3 := unhide HO3
    rw [Nat.zero_add, List.nil_append] at ho3
    have hz : ∀ k, v3.ownBlock = some k → w.heap.size ≤ k := fun k hk => by
      rcases hl3 with hl | hl
      · rw [hl] at hk; simp [Value.ownBlock] at hk; omega
      · rw [hl] at hk; cases hk; simp
    refine ⟨_, rfl, ownsRow_from ho3 hz, (unhide HB0).grown hg3 (by simp) (fun k hk => by simp [Value.ownBlock] at hk; omega)⟩

/-- What Read tells. -/
def ReadPost (w : World) (S : St) (L : List Ent) (n : List UInt8) (e : Ending) (w' : World) : Prop :=
  Below w.heap.size w w' ∧
  ((readC S L n ≠ 0 ∧ ∃ b, e = .returned (.tuple #[.slice none 0 0, evW b]) ∧ ErrW w' b (readC S L n)) ∨
   (readC S L n = 0 ∧ ∃ e0 v, look L n = some e0 ∧ e = .returned (.tuple #[v, .nilIface]) ∧ w'.ownsRow w.heap.size 5 1 v e0.data.length (byteCells e0.data)))

set_option maxHeartbeats 3200000 in
set_option maxRecDepth 100000 in
theorem read_any {w : World} {p : Nat} {S : St} {mb : Option Nat} {L : List Ent} {O : Nat → Prop} (s : ByteArray) (h : DK w p S mb L O) (hE : ET w) (hs : s.size ≤ maxLen) :
    Calls Tryz.prog 27 #[.pointer (some ⟨p, 0, none⟩), .string s] w (ReadPost w S L s.data.toList) := by
  have HF := hide (find_any s h hs)
  unfold FindRes at HF
  obtain ⟨_, _, _, c3, _⟩ := h.cells
  have HW := hide (fun c => within_class s c w hE)
  unfold ReadPost readC
  by_cases ho : S.off = true
  · rw [if_pos ho]
    rw [ho] at c3
    cases hlk : look L s.data.toList with
    | none =>
      rw [hlk] at HF
      clear h
      go_enter Tryz.func27, Tryz.ntmps27
      go_wp2_with (first
        | (go_at_call 44; refine (unhide HF).mono ?_; rintro e0 w0 ⟨rfl, rfl⟩)
        | (go_at_call 49; refine (unhide HW 32).mono ?_; rintro e0 w1 ⟨b1, rfl, hb1, he1, hf1⟩))
      go_ret2
      exact ⟨hf1, .inl ⟨by decide, b1, rfl, he1⟩⟩
    | some e =>
      rw [hlk] at HF
      clear h
      go_enter Tryz.func27, Tryz.ntmps27
      go_wp2_with (first
        | (go_at_call 44; refine (unhide HF).mono ?_; rintro e0 w0 ⟨rfl, rfl⟩)
        | (go_at_call 49; refine (unhide HW 32).mono ?_; rintro e0 w1 ⟨b1, rfl, hb1, he1, hf1⟩))
      go_ret2
      exact ⟨hf1, .inl ⟨by decide, b1, rfl, he1⟩⟩
  · rw [if_neg ho]
    have ho' : S.off = false := by simpa using ho
    rw [ho'] at c3
    cases hlk : look L s.data.toList with
    | none =>
      rw [hlk] at HF
      clear h
      go_enter Tryz.func27, Tryz.ntmps27
      go_wp2_with (first
        | (go_at_call 44; refine (unhide HF).mono ?_; rintro e0 w0 ⟨rfl, rfl⟩)
        | (go_at_call 49; refine (unhide HW 30).mono ?_; rintro e0 w1 ⟨b1, rfl, hb1, he1, hf1⟩))
      go_ret2
      exact ⟨hf1, .inl ⟨by decide, b1, rfl, he1⟩⟩
    | some e =>
      rw [hlk] at HF
      obtain ⟨hem, hen⟩ := look_mem hlk
      have hef := h.files e hem
      have HC := hide (clone_own e.v e.data w hef.row hef.len)
      have cv : w.cell? ⟨e.fp, 0, none⟩ = some e.v := by rw [(cellB hef.blk 0).1]; rfl
      obtain ⟨a0, k0, hv0⟩ := own_v hef
      rw [hv0] at cv HC
      clear h hef
      go_enter Tryz.func27, Tryz.ntmps27
      go_wp2_with (first
        | (go_at_call 44; refine (unhide HF).mono ?_; rintro e0 w0 ⟨rfl, rfl⟩)
        | (go_at_call 50; refine (unhide HC).mono ?_; rintro e0 w1 ⟨v1, rfl, hr1, hf1⟩))
      go_ret2
      exact ⟨hf1, .inr ⟨(by first | rfl | trivial), e, v1, rfl, rfl, hr1⟩⟩
end Go.Proofs.YthphadbcebeoaaaGreatDoor.Dk
/- A disk but for where its files lie: the calls' laws in terms of names, bytes, how many are sure. -/
namespace Go.Proofs.YthphadbcebeoaaaGreatDoor.Dk
open Go.RowKit Go.Lib Go.Maps Go.WideMaps

/-- A file: name, bytes, how many are sure. -/
def fl (n d : List UInt8) (su : Nat) : Ent := ⟨n, 0, .slice none 0 0, d, su⟩
/-- A file but for where it lies. -/
def er (e : Ent) : Ent := fl e.name e.data e.sure
theorem er_er (e : Ent) : er (er e) = er e := rfl
theorem look_er (n : List UInt8) : ∀ L : List Ent, look (L.map er) n = (look L n).map er
  | [] => rfl
  | e :: r => by
    have ih := look_er n r
    unfold look at ih ⊢
    simp only [List.map_cons, List.find?_cons]
    have : (er e).name = e.name := rfl
    rw [this]
    cases e.name == n
    · exact ih
    · rfl
theorem used_er (L : List Ent) : usedL (L.map er) = usedL L := by
  unfold usedL
  rw [List.map_map]
  rfl
theorem fits_er (S : St) (L : List Ent) (m n : Nat) : fitsB S (L.map er) m n = fitsB S L m n := by unfold fitsB; rw [used_er]
theorem another_er (L : List Ent) (n : List UInt8) : anotherC (L.map er) n = anotherC L n := by unfold anotherC; rw [List.length_map]
theorem appC_er (S : St) (L : List Ent) (n : List UInt8) (m : Nat) : appC S (L.map er) n m = appC S L n m := by
  unfold appC
  rw [look_er, another_er]
  cases look L n with
  | none => simp only [Option.map_none, fits_er]
  | some e => simp only [Option.map_some, fits_er]; rfl
theorem oldData_er (L : List Ent) (n : List UInt8) : oldData (L.map er) n = oldData L n := by unfold oldData; rw [look_er]; cases look L n <;> rfl
theorem oldSure_er (L : List Ent) (n : List UInt8) : oldSure (L.map er) n = oldSure L n := by unfold oldSure; rw [look_er]; cases look L n <;> rfl
theorem thereC_er (L : List Ent) (n : List UInt8) : thereC (L.map er) n = thereC L n := by unfold thereC; rw [look_er]; cases look L n <;> rfl
theorem readC_er (S : St) (L : List Ent) (n : List UInt8) : readC S (L.map er) n = readC S L n := by unfold readC; rw [look_er]; cases look L n <;> rfl
theorem insE_er (e : Ent) : ∀ L : List Ent, (insE e L).map er = insE (er e) (L.map er)
  | [] => rfl
  | y :: r => by
    have ih := insE_er e r
    unfold insE
    show _ = if bytesBefore e.name y.name = true then er e :: er y :: r.map er else er y :: insE (er e) (r.map er)
    split
    · rfl
    · rw [List.map_cons, ih]
theorem delE_er (n : List UInt8) (L : List Ent) : (delE n L).map er = delE n (L.map er) := by
  unfold delE
  rw [List.filter_map]
  rfl
theorem putE_er (e : Ent) (L : List Ent) : (putE e L).map er = putE (er e) (L.map er) := by
  unfold putE
  rw [insE_er, delE_er]
  rfl
theorem repl_er (e : Ent) (L : List Ent) : (repl e L).map er = repl (er e) (L.map er) := by
  unfold repl
  rw [List.map_map, List.map_map]
  refine List.map_congr_left fun x _ => ?_
  show er (if x.name == e.name then e else x) = if x.name == e.name then er e else er x
  split <;> rfl
/-- The files behind a crash that keeps ks. -/
def fallF (ks : List Int) : Nat → List Ent → List Ent
  | _, [] => []
  | i, e :: r => fl e.name (e.data.take (leftN (ks.getD i 0) e)) (leftN (ks.getD i 0) e) :: fallF ks (i + 1) r
theorem crash_er (ks : List Int) : ∀ (i : Nat) (L : List Ent), (crashL ks i L).map er = fallF ks i (L.map er)
  | _, [] => rfl
  | i, e :: r => by
    have ih := crash_er ks (i + 1) r
    show er (fallE (ks.getD i 0) e) :: (crashL ks (i + 1) r).map er = fl e.name (e.data.take (leftN (ks.getD i 0) (er e))) (leftN (ks.getD i 0) (er e)) :: fallF ks (i + 1) (r.map er)
    rw [ih]
    rfl

/-- A disk at block p: its numbers, its files; all its blocks are among O. -/
def DX (w : World) (p : Nat) (S : St) (F : List Ent) (O : Nat → Prop) : Prop :=
  ∃ mb L, DK w p S mb L O ∧ (∀ k, O k → k < w.heap.size) ∧ L.map er = F
theorem DX.fr {w w' : World} {p : Nat} {S : St} {F : List Ent} {O : Nat → Prop} (h : DX w p S F O) (hz : w.heap.size ≤ w'.heap.size) (hs : ∀ k, O k → w'.heap[k]? = w.heap[k]?) : DX w' p S F O := by
  obtain ⟨mb, L, hd, hO, hs'⟩ := h
  exact ⟨mb, L, hd.same hs, fun k hk => Nat.lt_of_lt_of_le (hO k hk) hz, hs'⟩
theorem DX.lt {w : World} {p : Nat} {S : St} {F : List Ent} {O : Nat → Prop} (h : DX w p S F O) : ∀ k, O k → k < w.heap.size := by
  obtain ⟨mb, L, hd, hO, _⟩ := h
  exact hO
theorem DX.below {w w' : World} {p : Nat} {S : St} {F : List Ent} {O : Nat → Prop} (h : DX w p S F O) (hb : Below w.heap.size w w') : DX w' p S F O :=
  h.fr hb.size (fun k hk => hb.block k (h.lt k hk))
theorem DX.rising {w : World} {p : Nat} {S : St} {F : List Ent} {O : Nat → Prop} (h : DX w p S F O) : Rising F := by
  obtain ⟨mb, L, hd, hO, rfl⟩ := h
  have := hd.rising
  unfold Rising at this ⊢
  rw [List.pairwise_map]
  exact this
theorem DX.files {w : World} {p : Nat} {S : St} {F : List Ent} {O : Nat → Prop} (h : DX w p S F O) : ∀ e ∈ F, e.sure ≤ e.data.length ∧ e.data.length ≤ 1048576 := by
  obtain ⟨mb, L, hd, hO, rfl⟩ := h
  intro e he
  obtain ⟨x, hx, rfl⟩ := List.mem_map.1 he
  exact ⟨(hd.files x hx).sure, (hd.files x hx).len⟩
theorem DX.few {w : World} {p : Nat} {S : St} {F : List Ent} {O : Nat → Prop} (h : DX w p S F O) : F.length ≤ 64 := by
  obtain ⟨mb, L, hd, hO, rfl⟩ := h
  rw [List.length_map]
  exact hd.few

theorem dx_new (w : World) (room : Int) (hr : 0 ≤ room) : Calls Tryz.prog 8 #[.int .i64 room] w fun e w' => e = .returned (.pointer (some ⟨w.heap.size, 0, none⟩)) ∧ DX w' w.heap.size ⟨room, 0, false, false, 0⟩ [] (fun k => k = w.heap.size) ∧ Below w.heap.size w w' := by
  refine (new_any w room hr).mono ?_
  rintro e w' ⟨rfl, hd, hb, hz⟩
  exact ⟨rfl, ⟨none, [], hd, fun k hk => by omega, rfl⟩, hb⟩
theorem new_low (w : World) (room : Int) (hr : room < 0) :
    Calls Tryz.prog 8 #[.int .i64 room] w fun e w' => e = .returned (.pointer (some ⟨w.heap.size, 0, none⟩)) ∧ DK w' w.heap.size ⟨0, 0, false, false, 0⟩ none [] (fun k => k = w.heap.size) ∧ Below w.heap.size w w' ∧ w'.heap.size = w.heap.size + 1 := by
  have hm : max room 0 = 0 := by omega
  clear hr
  go_enter Tryz.func8, Tryz.ntmps8
  go_wp2
  go_ret
  exact ⟨rfl, ⟨(MapKept.heap_alloc w _).1, fun _ => rfl, fun b hb => (by cases hb), fun e he => (by cases he), List.Pairwise.nil, (by simp), rfl, fun b hb => (by cases hb), fun e he => (by cases he), fun e he => (by cases he)⟩, (Below.refl _ _).alloc (Nat.le_refl _) _, by simp⟩
/-- New, whatever the room. -/
theorem dx_new2 (w : World) (room : Int) : Calls Tryz.prog 8 #[.int .i64 room] w fun e w' => e = .returned (.pointer (some ⟨w.heap.size, 0, none⟩)) ∧ DX w' w.heap.size ⟨max room 0, 0, false, false, 0⟩ [] (fun k => k = w.heap.size) ∧ Below w.heap.size w w' := by
  by_cases hr : 0 ≤ room
  · have hm : max room 0 = room := by omega
    rw [hm]
    exact dx_new w room hr
  · have hm : max room 0 = 0 := by omega
    rw [hm]
    refine (new_low w room (by omega)).mono ?_
    rintro e w' ⟨rfl, hd, hb, hz⟩
    exact ⟨rfl, ⟨none, [], hd, fun k hk => by omega, rfl⟩, hb⟩
theorem dx_halt {w : World} {p : Nat} {S : St} {F : List Ent} {O : Nat → Prop} (k : Int) (h : DX w p S F O) : Calls Tryz.prog 23 #[.pointer (some ⟨p, 0, none⟩), .int .i64 k] w fun e w' => e = .returned (.tuple #[]) ∧ DX w' p { S with halting := decide (0 ≤ k), left := k } F O ∧ FrO O w w' := by
  obtain ⟨mb, L, hd, hO, hs⟩ := h
  refine (halt_any k hd).mono ?_
  rintro e w' ⟨rfl, hd', hf⟩
  exact ⟨rfl, ⟨mb, L, hd', fun k hk => Nat.lt_of_lt_of_le (hO k hk) hf.size, hs⟩, hf⟩
theorem dx_used {w : World} {p : Nat} {S : St} {F : List Ent} {O : Nat → Prop} (h : DX w p S F O) : Calls Tryz.prog 71 #[.pointer (some ⟨p, 0, none⟩)] w fun e w' => e = .returned (.int .i64 (usedL F : Int)) ∧ Below w.heap.size w w' := by
  obtain ⟨mb, L, hd, _, rfl⟩ := h
  rw [used_er]
  exact used_any hd
theorem dx_list {w : World} {p : Nat} {S : St} {F : List Ent} {O : Nat → Prop} (h : DX w p S F O) : Calls Tryz.prog 35 #[.pointer (some ⟨p, 0, none⟩)] w fun e w' => ∃ v, e = .returned v ∧ w'.ownsRow w.heap.size 9 1 v F.length ((F.map (·.name)).map encStr) ∧ Below w.heap.size w w' := by
  obtain ⟨mb, L, hd, _, rfl⟩ := h
  have e1 : (L.map er).map (·.name) = L.map (·.name) := by rw [List.map_map]; rfl
  rw [e1, List.length_map]
  exact list_any hd

theorem dx_append {w : World} {p : Nat} {S : St} {F : List Ent} {O : Nat → Prop} (s : ByteArray) (v : Value) (lb : List UInt8) (h : DX w p S F O) (hE : ET w) (hs : s.size ≤ 1000)
    (hr : 0 ≤ S.room ∧ S.room ≤ 4611686018427387904) (hc : 0 ≤ S.count ∧ S.count < 1000000000) (hl : S.halting = true → 0 ≤ S.left ∧ S.left < 9223372036854775808) (hv : RBo w O v lb) :
    Calls Tryz.prog 25 #[.pointer (some ⟨p, 0, none⟩), .string s, v] w fun e w' => ∃ v' O', e = .returned v' ∧ ErrOut (Old w) w' v' (beginS S (appC S F s.data.toList lb.length)).2 ∧
      DX w' p (beginS S (appC S F s.data.toList lb.length)).1 (if (beginS S (appC S F s.data.toList lb.length)).2 = 0 then putE (fl s.data.toList (oldData F s.data.toList ++ lb) (oldSure F s.data.toList)) F else F) O' ∧ FrO O w w' ∧ (∀ k, O' k → O k ∨ w.heap.size ≤ k) := by
  obtain ⟨mb, L, hd, hO, rfl⟩ := h
  rw [appC_er, oldData_er, oldSure_er]
  refine (append_any s v lb hd hO hE hs hr hc hl hv).mono ?_
  rintro e w' ⟨v', mb', L', rfl, he, hd', hf, h1, h2⟩
  refine ⟨v', _, rfl, he, ⟨mb', L', hd', fun k hk => ?_, ?_⟩, hf, fun k hk => hk.elim .inl (fun hh => .inr hh.1)⟩
  · have := hf.size
    rcases hk with hk | hk
    · have := hO k hk; omega
    · exact hk.2
  · by_cases h0 : (beginS S (appC S L s.data.toList lb.length)).2 = 0
    · rw [if_pos h0]
      obtain ⟨e', rfl, hen, hed, hes⟩ := h2 h0
      rw [putE_er]
      unfold er
      rw [hen, hed, hes]
    · rw [if_neg h0, h1 h0]

theorem dx_sync {w : World} {p : Nat} {S : St} {F : List Ent} {O : Nat → Prop} (s : ByteArray) (h : DX w p S F O) (hE : ET w) (hs : s.size ≤ maxLen) (hc : 0 ≤ S.count ∧ S.count < 1000000000) (hl : S.halting = true → 0 ≤ S.left ∧ S.left < 9223372036854775808) :
    Calls Tryz.prog 26 #[.pointer (some ⟨p, 0, none⟩), .string s] w fun e w' => ∃ v', e = .returned v' ∧ ErrOut (Old w) w' v' (beginS S (thereC F s.data.toList)).2 ∧
      DX w' p (beginS S (thereC F s.data.toList)).1 (if (beginS S (thereC F s.data.toList)).2 = 0 then repl (fl s.data.toList (oldData F s.data.toList) (oldData F s.data.toList).length) F else F) O ∧ FrO O w w' := by
  obtain ⟨mb, L, hd, hO, rfl⟩ := h
  rw [thereC_er, oldData_er]
  refine (sync_any s hd hO hE hs hc hl).mono ?_
  rintro e w' ⟨v', L', rfl, he, hd', hf, h1, h2⟩
  refine ⟨v', rfl, he, ⟨mb, L', hd', fun k hk => Nat.lt_of_lt_of_le (hO k hk) hf.size, ?_⟩, hf⟩
  by_cases h0 : (beginS S (thereC L s.data.toList)).2 = 0
  · rw [if_pos h0]
    obtain ⟨e', hlk, rfl⟩ := h2 h0
    rw [repl_er]
    unfold oldData
    rw [hlk]
    have := (look_mem hlk).2
    unfold er syncE
    rw [← this]
  · rw [if_neg h0, h1 h0]

theorem dx_crash {w : World} {p : Nat} {S : St} {F : List Ent} {O : Nat → Prop} (kv : Value) (ks : List Int) (h : DX w p S F O) (hk : KeepAt w O kv ks) (hkl : ks.length ≤ 1000000) (hn : ∀ e ∈ F, e.name.length ≤ 1000) :
    Calls Tryz.prog 13 #[.pointer (some ⟨p, 0, none⟩), .agg #[kv]] w fun e w' => e = .returned (.tuple #[]) ∧ DX w' p { S with off := false, halting := false, left := 0 } (fallF ks 0 F) O ∧ FrO O w w' := by
  obtain ⟨mb, L, hd, hO, rfl⟩ := h
  refine (crash_any kv ks hd hO hk hkl (fun e he => hn (er e) (List.mem_map_of_mem he))).mono ?_
  rintro e w' ⟨rfl, hd', hf⟩
  exact ⟨rfl, ⟨mb, _, hd', fun k hk => Nat.lt_of_lt_of_le (hO k hk) hf.size, crash_er ks 0 L⟩, hf⟩

theorem dx_read {w : World} {p : Nat} {S : St} {F : List Ent} {O : Nat → Prop} (s : ByteArray) (h : DX w p S F O) (hE : ET w) (hs : s.size ≤ maxLen) :
    Calls Tryz.prog 27 #[.pointer (some ⟨p, 0, none⟩), .string s] w fun e w' => Below w.heap.size w w' ∧
      ((readC S F s.data.toList ≠ 0 ∧ ∃ b, e = .returned (.tuple #[.slice none 0 0, evW b]) ∧ ErrW w' b (readC S F s.data.toList)) ∨
       (readC S F s.data.toList = 0 ∧ look F s.data.toList ≠ none ∧ ∃ v, e = .returned (.tuple #[v, .nilIface]) ∧ w'.ownsRow w.heap.size 5 1 v (oldData F s.data.toList).length (byteCells (oldData F s.data.toList)))) := by
  obtain ⟨mb, L, hd, hO, rfl⟩ := h
  rw [readC_er, oldData_er, look_er]
  refine (read_any s hd hE hs).mono ?_
  rintro e w' ⟨hb, h1⟩
  refine ⟨hb, h1.imp id ?_⟩
  rintro ⟨h0, e0, v, hl, he, hr⟩
  refine ⟨h0, by rw [hl]; simp, v, he, ?_⟩
  unfold oldData
  rw [hl]
  exact hr
end Go.Proofs.YthphadbcebeoaaaGreatDoor.Dk
