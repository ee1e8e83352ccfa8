/- put: a file comes under a name. -/
import Derived.Test.YtpminalccnhkjaaGreatDoorJShelfDList
import Derived.WalkSpells
import Derived.Carry
import Derived.Deep.RegionWith
namespace Go.Proofs.YtpminalccnhkjaaGreatDoor.Dk
open Go.RowKit Go.Lib Go.Maps Go.WideMaps

theorem pairwise_insE {R : Ent → Ent → Prop} {e : Ent} : ∀ {L : List Ent}, L.Pairwise R → (∀ x ∈ L, R x e ∧ R e x) → (insE e L).Pairwise R
  | [], _, _ => List.pairwise_singleton _ _
  | y :: r, h, he => by
    obtain ⟨h1, h2⟩ := List.pairwise_cons.1 h
    unfold insE
    split
    · refine List.pairwise_cons.2 ⟨fun x hx => (he x hx).2, h⟩
    · refine List.pairwise_cons.2 ⟨fun x hx => ?_, pairwise_insE h2 (fun x hx => he x (by simp [hx]))⟩
      rcases mem_insE.1 hx with rfl | hx
      · exact (he y (by simp)).1
      · exact h1 x hx
theorem mem_delE {n : List UInt8} {L : List Ent} {x : Ent} : x ∈ delE n L ↔ x ∈ L ∧ x.name ≠ n := by
  unfold delE
  simp
theorem mem_putE {e x : Ent} {L : List Ent} : x ∈ putE e L ↔ x = e ∨ (x ∈ L ∧ x.name ≠ e.name) := by
  unfold putE
  rw [mem_insE, mem_delE]

/-- A file's blocks are no map's. -/
theorem file_kept {w w' : World} {e : Ent} {b : Nat} (h : FileAt w e) (ht : w.mapTurned w' b) : FileAt w' e := by
  obtain ⟨es, clock, es', clock', hb, rfl⟩ := ht
  have hne : ∀ {k : Nat} {c : Array Value} {T : TypeId}, w.heap[k]? = some (.cells c T (0, 0)) → (ChangeMaps.setBlock w b (.map es' clock')).heap[k]? = w.heap[k]? := fun {k c T} hk => ChangeMaps.heap_setBlock_other hb _ (by rintro rfl; rw [hb] at hk; cases hk)
  refine ⟨(hne h.blk).trans h.blk, ownsRow_of_same h.row (fun k hk => ?_), h.sure, h.len⟩
  rcases h.row.2 with ⟨e1, _⟩ | ⟨g, cap, cur, e1, _, hc, _⟩
  · rw [e1] at hk; simp [Value.ownBlock] at hk
  · rw [e1] at hk; simp [Value.ownBlock] at hk; subst hk
    exact hne hc

theorem dk_put {w w' : World} {p b n : Nat} {S : St} {L : List Ent} {O : Nat → Prop} (h : DK w p S (some b) L O) (e : Ent) (he : FileAt w e) (hap : ∀ x ∈ L, x.name ≠ e.name → Apart x e ∧ Apart e x)
    (hOf : O e.fp) (hOr : ∀ k, e.v.ownBlock = some k → O k) (hfew : (putE e L).length ≤ 64) (hown : w'.ownsMap Tryz.prog 9 RP b n ((DL L).put (.string e.name) (.held e.fp))) (ht : w.mapTurned w' b) : DK w' p S (some b) (putE e L) O := by
  rw [put_DL] at hown
  refine ⟨?_, fun hh => (by cases hh), fun b' hb' => ?_, fun x hx => ?_, ?_, hfew, h.oP, h.oM, fun x hx => ?_, fun x hx => ?_⟩
  · obtain ⟨es, clock, es', clock', hb, rfl⟩ := ht
    rw [ChangeMaps.heap_setBlock_other hb _ (by rintro rfl; have := h.disk; rw [hb] at this; cases this)]
    exact h.disk
  · cases hb'
    exact ownsMap_tight hown
  · rcases mem_putE.1 hx with rfl | ⟨hx, _⟩
    · exact file_kept he ht
    · exact file_kept (h.files x hx) ht
  · unfold putE
    refine pairwise_insE (h.apart.filter _) (fun x hx => ?_)
    obtain ⟨h1, h2⟩ := mem_delE.1 hx
    exact hap x h1 h2
  · rcases mem_putE.1 hx with rfl | ⟨hx, _⟩
    · exact hOf
    · exact h.oF x hx
  · rcases mem_putE.1 hx with rfl | ⟨hx, _⟩
    · exact hOr
    · exact h.oR x hx

theorem dk_made {w : World} {p : Nat} {S : St} {O : Nat → Prop} (h : DK w p S none [] O) :
    DK ((w.setCell ⟨p, 1, none⟩ (.map (some w.heap.size))).alloc (.map #[] 0)) p S (some w.heap.size) [] (fun k => O k ∨ k = w.heap.size) := by
  have hp := h.lt
  have hz : (w.setCell ⟨p, 1, none⟩ (.map (some w.heap.size))).heap.size = w.heap.size := by simp
  refine ⟨(Below.heap_alloc _ _ p (by rw [hz]; exact hp)).trans (heap_setCell_at h.disk 1 _), fun hh => (by cases hh), fun b hb => ?_, fun e he => (by cases he), List.Pairwise.nil, (by simp), .inl h.oP, fun b hb => (by cases hb; exact .inr rfl), fun e he => (by cases he), fun e he => (by cases he)⟩
  cases hb
  have := World.ownsMap_made (w.setCell ⟨p, 1, none⟩ (.map (some w.heap.size))) Tryz.prog 9 RP
  rw [hz] at this
  exact this

theorem below_of_drew {w w1 : World} (h : Below w.drew.heap.size w.drew w1) : Below w.heap.size w w1 := ((Below.refl w.heap.size w).drew).trans h
/-- O, and what came from n on. -/
def From (O : Nat → Prop) (n : Nat) (w : World) (k : Nat) : Prop := O k ∨ (n ≤ k ∧ k < w.heap.size)

theorem FrO.turned {O : Nat → Prop} {w w' : World} {b : Nat} (ht : w.mapTurned w' b) (hb : O b) : FrO O w w' :=
  ⟨ht.grown.size, fun k hk hn => ht.grown.block k hk (fun e => hn (by cases e; exact hb)), ht.grown.os, ht.grown.tape, ht.grown.output⟩
theorem turned_size {w w' : World} {b : Nat} (ht : w.mapTurned w' b) : w'.heap.size = w.heap.size := by
  obtain ⟨es, clock, es', clock', hb, rfl⟩ := ht
  simp [ChangeMaps.setBlock]

theorem FileAt.lt {w : World} {e : Ent} (h : FileAt w e) : e.fp < w.heap.size := (Array.getElem?_eq_some_iff.1 h.blk).1
theorem FileAt.below {w w' : World} {e : Ent} (h : FileAt w e) (hb : Below w.heap.size w w') : FileAt w' e := by
  refine ⟨(hb.block _ h.lt).trans h.blk, ownsRow_of_same h.row (fun k hk => ?_), h.sure, h.len⟩
  rcases h.row.2 with ⟨e1, _⟩ | ⟨g, cap, cur, e1, _, hc, _⟩
  · rw [e1] at hk; simp [Value.ownBlock] at hk
  · rw [e1] at hk; simp [Value.ownBlock] at hk; subst hk
    exact hb.block _ (Array.getElem?_eq_some_iff.1 hc).1

theorem put_fin {w w1 w2 : World} {p b n : Nat} {S : St} {L : List Ent} {O : Nat → Prop} (h : DK w p S (some b) L O) (e : Ent) (he : FileAt w e) (hap : ∀ x ∈ L, x.name ≠ e.name → Apart x e ∧ Apart e x)
    (hOf : O e.fp) (hOr : ∀ k, e.v.ownBlock = some k → O k) (hfew : (putE e L).length ≤ 64) (hO : ∀ k, O k → k < w.heap.size) (hb : Below w.heap.size w w1) (hown : w2.ownsMap Tryz.prog 9 RP b n ((DL L).put (.string e.name) (.held e.fp))) (ht : w1.mapTurned w2 b) :
    DK w2 p S (some b) (putE e L) O ∧ FrO O w w2 :=
  ⟨dk_put (h.below hO hb) e (he.below hb) hap hOf hOr hfew hown ht, FrO.trans (FrO.of_below (O := O) hb) (FrO.turned ht (h.oM b rfl)) (fun _ _ hk => hk)⟩

set_option maxHeartbeats 3200000 in
set_option maxRecDepth 100000 in
theorem put_any {w : World} {p : Nat} {S : St} {mb : Option Nat} {L : List Ent} {O : Nat → Prop} (s : ByteArray) (e : Ent) (hn : s.data.toList = e.name) (h : DK w p S mb L O) (hO : ∀ k, O k → k < w.heap.size) (hs : s.size ≤ 1000) (he : FileAt w e) (hap : ∀ x ∈ L, x.name ≠ e.name → Apart x e ∧ Apart e x)
    (hOf : O e.fp) (hOr : ∀ k, e.v.ownBlock = some k → O k) (hfew : (putE e L).length ≤ 64) :
    Calls Tryz.prog 29 #[.pointer (some ⟨p, 0, none⟩), .string s, .pointer (some ⟨e.fp, 0, none⟩)] w fun ev w' => ev = .returned (.tuple #[]) ∧ ∃ mb', DK w' p S mb' (putE e L) (From O w.heap.size w') ∧ FrO O w w' := by
  have hkey := keyOf_string_mk (P := Tryz.prog) (k := 9) Tryz.underlying9 (s := s) (by unfold maxLen; omega)
  rw [hn] at hkey
  obtain ⟨_, c1, _⟩ := h.cells
  have f1 := h.frz 1
  have hlt := h.lt
  have HC := hide (fun W => sclone_any s W (by omega))
  cases mb with
  | none =>
    have hL := h.none rfl
    subst hL
    have hnil := run_eql_map_nil (P := Tryz.prog) w 64 9 67 none Tryz.underlying64
    have hmk := run_makeMap (P := Tryz.prog) 64 w
    have HD := hide (dk_made h)
    have he1 : Hid (FileAt ((w.setCell ⟨p, 1, none⟩ (.map (some w.heap.size))).alloc (.map #[] 0)) e) := by
      have hb : ∀ {k : Nat} {c : Array Value} {T : TypeId}, T ≠ 66 → w.heap[k]? = some (.cells c T (0, 0)) → ((w.setCell ⟨p, 1, none⟩ (.map (some w.heap.size))).alloc (.map #[] 0)).heap[k]? = w.heap[k]? := fun {k c T} hT hk => by
        have hk' := (Array.getElem?_eq_some_iff.1 hk).1
        rw [Below.heap_alloc _ _ k (by simpa using hk'), heap_setCell_ne 1 _ (by rintro rfl; rw [h.disk] at hk; injection hk with hk; injection hk with _ h2; exact hT h2.symm)]
      refine ⟨(hb (by decide) he.blk).trans he.blk, ownsRow_of_same he.row (fun k hk => ?_), he.sure, he.len⟩
      rcases he.row.2 with ⟨e1, _⟩ | ⟨g, cap, cur, e1, _, hc, _⟩
      · rw [e1] at hk; simp [Value.ownBlock] at hk
      · rw [e1] at hk; simp [Value.ownBlock] at hk; subst hk
        exact hb (by decide) hc
    have HF := hide (((FrO.refl O w).set h.oP 1 (.map (some w.heap.size))).alloc (.map #[] 0))
    clear h he
    go_enter Tryz.func29, Tryz.ntmps29
    have hO2 : ∀ k, (O k ∨ k = w.heap.size) → k < ((w.setCell ⟨p, 1, none⟩ (.map (some w.heap.size))).alloc (.map #[] 0)).heap.size := fun k hk => by
      rcases hk with hk | hk
      · have := hO k hk; simp; omega
      · simp; omega
    go_wp2
    go_region_with (first
      | (go_at_call 44; refine (unhide HC _).mono ?_; rintro e1 w1 ⟨rfl, hb1⟩; have hd1 := (unhide HD).below hO2 (below_of_drew hb1); have c11 := hd1.cells.2.1; obtain ⟨w2, hrun2, hown2, hturn2⟩ := (hd1.some w.heap.size rfl).store Tryz.law Tryz.underlying64 (by unfold maxLen; simp) hkey (val := .pointer (some ⟨e.fp, 0, none⟩)) (d := .held e.fp) (ps := []) rfl))
    all_goals
      go_end0
      have hh := put_fin (unhide HD) e (unhide he1) hap (.inl hOf) (fun k hk => .inl (hOr k hk)) hfew hO2 (below_of_drew hb1) hown2 hturn2
      have hsz : w.heap.size < w2.heap.size := by
        have h1 := (below_of_drew hb1).size
        have h2 := turned_size hturn2
        simp at h1
        omega
      exact ⟨rfl, _, hh.1.mono (fun k hk => hk.elim .inl (fun e => .inr ⟨by omega, by omega⟩)), FrO.trans (unhide HF) hh.2 (fun k hk hh => hh.elim id (fun e => absurd hk (by omega)))⟩
  | some b =>
    have HD := hide h
    have HE := hide he
    have hnil := run_eql_map_nil (P := Tryz.prog) w 64 9 67 (some b) Tryz.underlying64
    clear h he
    go_enter Tryz.func29, Tryz.ntmps29
    go_wp2
    go_region_with (first
      | (go_at_call 44; refine (unhide HC _).mono ?_; rintro e1 w1 ⟨rfl, hb1⟩; have hd1 := (unhide HD).below hO (below_of_drew hb1); have c11 := hd1.cells.2.1; obtain ⟨w2, hrun2, hown2, hturn2⟩ := (hd1.some b rfl).store Tryz.law Tryz.underlying64 (by have := hd1.few; unfold maxLen; omega) hkey (val := .pointer (some ⟨e.fp, 0, none⟩)) (d := .held e.fp) (ps := []) rfl))
    all_goals
      go_end0
      have hh := put_fin (unhide HD) e (unhide HE) hap hOf hOr hfew hO (below_of_drew hb1) hown2 hturn2
      exact ⟨rfl, _, hh.1.mono (fun k hk => .inl hk), hh.2⟩
end Go.Proofs.YtpminalccnhkjaaGreatDoor.Dk
