/- The library's contracts on maps.Keys, slices.Sorted, slices.Sort and strings.Clone, laid at this program's numbers (by the library's own tool, in plain words). -/
import Derived.Shelf.SlIter.Nil
import Derived.Shelf.SortM.Plain
import Derived.Shelf.SortM.SortNone
import Derived.Shelf.Pu.Clone
import Derived.Ground.GgzProg
import Derived.Ground.SlgmProg
import Derived.Ground.MpProg
import Derived.Test.YthphadbcebeoaaaGreatDoorProg
import Derived.Test.YthphadbcebeoaaaGreatDoorJDAs2DBeginDBegin2DUsed
import Derived.WalkSpells
import Derived.Carry
import Derived.Deep.RegionWith
namespace Go.Proofs.YthphadbcebeoaaaGreatDoor
open Go.Shelf
def Tryz.keys_ren : Go.Shelf.Ren := ⟨fun | 7 => 63 | 10 => 86 | n => n, fun | 23 => 71 | 26 => 9 | 3 => 90 | 28 => 127 | 0 => 0 | 27 => 126 | 33 => 142 | 4 => 4 | n => n, fun | n => n⟩

theorem Tryz.keys : Go.Proofs.SlLaysZ.n7 Tryz.prog Tryz.keys_ren := {
  mixed := by kernel_rfl
  f7 := ⟨Tryz.f63.name, by decide, Tryz.func63.trans (congrArg some (by kernel_rfl))⟩
  f10 := ⟨Tryz.f86.name, by decide, Tryz.func86.trans (congrArg some (by kernel_rfl))⟩
  t0 := Tryz.underlying0
  a0 := Tryz.isAgg0
  z0 := Tryz.sizeOf0
  v0 := Tryz.zeroValue0
  t4 := Tryz.underlying4
  a4 := Tryz.isAgg4
  z4 := Tryz.sizeOf4
  v4 := Tryz.zeroValue4
  t23 := Tryz.underlying71
  a23 := Tryz.isAgg71
  z23 := Tryz.sizeOf71
  v23 := Tryz.zeroValue71
  t26 := Tryz.underlying9
  a26 := Tryz.isAgg9
  z26 := Tryz.sizeOf9
  v26 := Tryz.zeroValue9
  t27 := Tryz.underlying126
  a27 := Tryz.isAgg126
  z27 := Tryz.sizeOf126
  v27 := Tryz.zeroValue126
  t28 := Tryz.underlying127
  a28 := Tryz.isAgg127
  z28 := Tryz.sizeOf127
  v28 := Tryz.zeroValue127
  t33 := Tryz.underlying142
  a33 := Tryz.isAgg142
  z33 := Tryz.sizeOf142
  v33 := Tryz.zeroValue142 }
def Tryz.sorted_ren : Go.Shelf.Ren := ⟨fun | 6 => 62 | 8 => 84 | 9 => 85 | 11 => 104 | 13 => 106 | 12 => 105 | 23 => 122 | 24 => 123 | 14 => 113 | 15 => 114 | 16 => 115 | 17 => 116 | 18 => 117 | 19 => 118 | 20 => 119 | 21 => 120 | 22 => 121 | 25 => 127 | 26 => 128 | 27 => 129 | 28 => 130 | 29 => 131 | 30 => 132 | 31 => 135 | n => n, fun | 26 => 9 | 28 => 127 | 24 => 88 | 0 => 0 | 3 => 3 | 37 => 190 | 48 => 172 | 50 => 35 | 4 => 4 | 40 => 202 | 39 => 201 | 45 => 206 | 5 => 5 | 9 => 9 | 51 => 213 | 55 => 216 | 57 => 220 | 58 => 221 | 33 => 142 | n => n, fun | n => n⟩

theorem Tryz.sorted : Go.Proofs.SlLaysZ.n6 Tryz.prog Tryz.sorted_ren := {
  mixed := by kernel_rfl
  f6 := ⟨Tryz.f62.name, by decide, Tryz.func62.trans (congrArg some (by kernel_rfl))⟩
  f8 := ⟨Tryz.f84.name, by decide, Tryz.func84.trans (congrArg some (by kernel_rfl))⟩
  f11 := ⟨Tryz.f104.name, by decide, Tryz.func104.trans (congrArg some (by kernel_rfl))⟩
  t0 := Tryz.underlying0
  a0 := Tryz.isAgg0
  z0 := Tryz.sizeOf0
  v0 := Tryz.zeroValue0
  t24 := Tryz.underlying88
  a24 := Tryz.isAgg88
  z24 := Tryz.sizeOf88
  v24 := Tryz.zeroValue88
  t26 := Tryz.underlying9
  a26 := Tryz.isAgg9
  z26 := Tryz.sizeOf9
  v26 := Tryz.zeroValue9
  t28 := Tryz.underlying127
  a28 := Tryz.isAgg127
  z28 := Tryz.sizeOf127
  v28 := Tryz.zeroValue127
  i26 := by kernel_rfl }
def Tryz.sort_ren : Go.Shelf.Ren := ⟨fun | 6 => 85 | 8 => 106 | 9 => 105 | 19 => 122 | 20 => 123 | 21 => 113 | 22 => 114 | 23 => 115 | 24 => 116 | 25 => 117 | 26 => 118 | 27 => 119 | 28 => 120 | 29 => 121 | 36 => 127 | 31 => 128 | 32 => 129 | 37 => 130 | 38 => 131 | 39 => 132 | 41 => 135 | n => n, fun | 27 => 88 | 29 => 9 | 3 => 3 | 32 => 190 | 26 => 88 | 0 => 0 | 44 => 172 | 46 => 35 | 4 => 4 | 36 => 202 | 35 => 201 | 41 => 206 | 5 => 5 | 9 => 9 | 53 => 213 | 57 => 216 | 63 => 220 | 64 => 221 | n => n, fun | n => n⟩

theorem Tryz.sort : Go.Proofs.SlLaysM.n6 Tryz.prog Tryz.sort_ren := {
  mixed := by kernel_rfl
  f6 := ⟨Tryz.f85.name, by decide, Tryz.func85.trans (congrArg some (by kernel_rfl))⟩
  f8 := Tryz.func106.trans (congrArg some (by kernel_rfl))
  f9 := ⟨Tryz.f105.name, by decide, Tryz.func105.trans (congrArg some (by kernel_rfl))⟩
  f19 := Tryz.func122.trans (congrArg some (by kernel_rfl))
  f20 := Tryz.func123.trans (congrArg some (by kernel_rfl))
  f21 := ⟨Tryz.f113.name, by decide, Tryz.func113.trans (congrArg some (by kernel_rfl))⟩
  f22 := ⟨Tryz.f114.name, by decide, Tryz.func114.trans (congrArg some (by kernel_rfl))⟩
  f23 := ⟨Tryz.f115.name, by decide, Tryz.func115.trans (congrArg some (by kernel_rfl))⟩
  f24 := ⟨Tryz.f116.name, by decide, Tryz.func116.trans (congrArg some (by kernel_rfl))⟩
  f25 := ⟨Tryz.f117.name, by decide, Tryz.func117.trans (congrArg some (by kernel_rfl))⟩
  f26 := ⟨Tryz.f118.name, by decide, Tryz.func118.trans (congrArg some (by kernel_rfl))⟩
  f27 := ⟨Tryz.f119.name, by decide, Tryz.func119.trans (congrArg some (by kernel_rfl))⟩
  f28 := ⟨Tryz.f120.name, by decide, Tryz.func120.trans (congrArg some (by kernel_rfl))⟩
  f29 := ⟨Tryz.f121.name, by decide, Tryz.func121.trans (congrArg some (by kernel_rfl))⟩
  f31 := Tryz.func128.trans (congrArg some (by kernel_rfl))
  f32 := Tryz.func129.trans (congrArg some (by kernel_rfl))
  f36 := ⟨Tryz.f127.name, by decide, Tryz.func127.trans (congrArg some (by kernel_rfl))⟩
  f37 := ⟨Tryz.f130.name, by decide, Tryz.func130.trans (congrArg some (by kernel_rfl))⟩
  f38 := ⟨Tryz.f131.name, by decide, Tryz.func131.trans (congrArg some (by kernel_rfl))⟩
  f39 := ⟨Tryz.f132.name, by decide, Tryz.func132.trans (congrArg some (by kernel_rfl))⟩
  f41 := ⟨Tryz.f135.name, by decide, Tryz.func135.trans (congrArg some (by kernel_rfl))⟩
  t0 := Tryz.underlying0
  a0 := Tryz.isAgg0
  z0 := Tryz.sizeOf0
  v0 := Tryz.zeroValue0
  t3 := Tryz.underlying3
  a3 := Tryz.isAgg3
  z3 := Tryz.sizeOf3
  v3 := Tryz.zeroValue3
  t4 := Tryz.underlying4
  a4 := Tryz.isAgg4
  z4 := Tryz.sizeOf4
  v4 := Tryz.zeroValue4
  t5 := Tryz.underlying5
  a5 := Tryz.isAgg5
  z5 := Tryz.sizeOf5
  v5 := Tryz.zeroValue5
  t9 := Tryz.underlying9
  a9 := Tryz.isAgg9
  z9 := Tryz.sizeOf9
  v9 := Tryz.zeroValue9
  t26 := Tryz.underlying88
  a26 := Tryz.isAgg88
  z26 := Tryz.sizeOf88
  v26 := Tryz.zeroValue88
  t27 := Tryz.underlying88
  a27 := Tryz.isAgg88
  z27 := Tryz.sizeOf88
  v27 := Tryz.zeroValue88
  t29 := Tryz.underlying9
  a29 := Tryz.isAgg9
  z29 := Tryz.sizeOf9
  v29 := Tryz.zeroValue9
  t32 := Tryz.underlying190
  a32 := Tryz.isAgg190
  z32 := Tryz.sizeOf190
  v32 := Tryz.zeroValue190
  t35 := Tryz.underlying201
  a35 := Tryz.isAgg201
  z35 := Tryz.sizeOf201
  v35 := Tryz.zeroValue201
  t36 := Tryz.underlying202
  a36 := Tryz.isAgg202
  z36 := Tryz.sizeOf202
  v36 := Tryz.zeroValue202
  t41 := Tryz.underlying206
  a41 := Tryz.isAgg206
  z41 := Tryz.sizeOf206
  v41 := Tryz.zeroValue206
  t44 := Tryz.underlying172
  a44 := Tryz.isAgg172
  z44 := Tryz.sizeOf172
  v44 := Tryz.zeroValue172
  t46 := Tryz.underlying35
  a46 := Tryz.isAgg35
  z46 := Tryz.sizeOf35
  v46 := Tryz.zeroValue35
  t53 := Tryz.underlying213
  a53 := Tryz.isAgg213
  z53 := Tryz.sizeOf213
  v53 := Tryz.zeroValue213
  t57 := Tryz.underlying216
  a57 := Tryz.isAgg216
  z57 := Tryz.sizeOf216
  v57 := Tryz.zeroValue216
  t63 := Tryz.underlying220
  a63 := Tryz.isAgg220
  z63 := Tryz.sizeOf220
  v63 := Tryz.zeroValue220
  t64 := Tryz.underlying221
  a64 := Tryz.isAgg221
  z64 := Tryz.sizeOf221
  v64 := Tryz.zeroValue221 }
def Tryz.clone_ren : Go.Shelf.Ren := ⟨fun | 25 => 83 | n => n, fun | 9 => 9 | 3 => 3 | 4 => 4 | 37 => 22 | 0 => 0 | 47 => 186 | 5 => 5 | n => n, fun | n => n⟩

theorem Tryz.clone : Go.Proofs.LaysPu.n25 Tryz.prog Tryz.clone_ren := {
  mixed := by kernel_rfl
  f25 := Tryz.func83.trans (congrArg some (by kernel_rfl))
  t0 := Tryz.underlying0
  a0 := Tryz.isAgg0
  z0 := Tryz.sizeOf0
  v0 := Tryz.zeroValue0
  i0 := by kernel_rfl
  t3 := Tryz.underlying3
  a3 := Tryz.isAgg3
  z3 := Tryz.sizeOf3
  v3 := Tryz.zeroValue3
  i3 := by kernel_rfl
  t4 := Tryz.underlying4
  a4 := Tryz.isAgg4
  z4 := Tryz.sizeOf4
  v4 := Tryz.zeroValue4
  i4 := by kernel_rfl
  t5 := Tryz.underlying5
  a5 := Tryz.isAgg5
  z5 := Tryz.sizeOf5
  v5 := Tryz.zeroValue5
  i5 := by kernel_rfl
  t9 := Tryz.underlying9
  a9 := Tryz.isAgg9
  z9 := Tryz.sizeOf9
  v9 := Tryz.zeroValue9
  i9 := by kernel_rfl
  t37 := Tryz.underlying22
  a37 := Tryz.isAgg22
  z37 := Tryz.sizeOf22
  v37 := Tryz.zeroValue22
  i37 := by kernel_rfl
  t47 := Tryz.underlying186
  a47 := Tryz.isAgg186
  z47 := Tryz.sizeOf186
  v47 := Tryz.zeroValue186
  i47 := by kernel_rfl }
end Go.Proofs.YthphadbcebeoaaaGreatDoor
/- List: the names, rising. strings.Clone. -/
namespace Go.Proofs.YthphadbcebeoaaaGreatDoor.Dk
open Go.RowKit Go.Lib Go.Maps Go.Sort Go.Shelf

theorem bb_lt : ∀ {a b : List UInt8}, bytesBefore a b = true → a < b
  | [], _ :: _, _ => List.Lex.nil
  | x :: r, y :: s, h => by
    simp only [bytesBefore, Bool.or_eq_true, decide_eq_true_eq, Bool.and_eq_true, beq_iff_eq] at h
    rcases h with h | ⟨rfl, h⟩
    · exact List.Lex.rel h
    · exact List.Lex.cons (bb_lt h)
theorem sorted_names {L : List Ent} (h : Rising L) {ss : List (List UInt8)} (hp : ss.Perm (L.map (·.name))) : ss.mergeSort (fun x y => decide (x ≤ y)) = L.map (·.name) := by
  have e : ss.mergeSort leB = (L.map (·.name)).mergeSort leB := mergeSort_of_perm hp
  have e2 : (L.map (·.name)).mergeSort leB = L.map (·.name) := by
    refine List.mergeSort_of_pairwise ?_
    rw [List.pairwise_map]
    exact h.imp fun hab => decide_eq_true (List.le_of_lt (bb_lt hab))
  exact e.trans e2

theorem clone_any (s : ByteArray) (w : World) (hs : s.size ≤ 281474976710656) : Calls Tryz.prog 83 #[.string s] w fun e w' => e = .returned (.string s) ∧ Below w.heap.size w w' :=
  AnyPu.stringslite_Clone Tryz.clone s w hs
theorem sclone_any (s : ByteArray) (w : World) (hs : s.size ≤ 281474976710656) : Calls Tryz.prog 61 #[.string s] w fun e w' => e = .returned (.string s) ∧ Below w.heap.size w w' := by
  have H := hide (clone_any s w hs)
  go_enter Tryz.func61, Tryz.ntmps61
  go_wp2_with (first | (go_at_call 83; refine (unhide H).mono ?_; rintro e w1 ⟨rfl, hb1⟩))
  go_ret
  exact ⟨rfl, hb1⟩

theorem Tryz.sorts (m : Nat) : AnyZ.SortsIn Tryz.prog Tryz.sorted_ren Fence.wide m :=
  ⟨fun blk off cap ss W hH hblk hsz => callsIn_wide.2 (AnyM.slices_Sort_string Tryz.sort blk off cap ss W hH hblk hsz),
   fun p cap W => callsIn_wide.2 (AnyM.slices_Sort_string_none Tryz.sort p cap W)⟩
theorem keys_call (mb : Option Nat) (W : World) : CallsIn Fence.wide 5 Tryz.prog 63 #[.map mb] W fun e w' =>
    e = .returned (.func (.func 86) #[] #[.pointer (some ⟨W.heap.size, 0, none⟩)]) ∧ w' = W.alloc (.cells #[.map mb] 71) :=
  AnyZ.keys_in Tryz.keys Fence.wide 5 trivial rfl mb W

/-- What slices.Sorted tells of a map's keys. -/
def SortedOf (w : World) (ks : List (List UInt8)) (e : Ending) (w' : World) : Prop :=
  ∃ (v : Value) (ss : List (List UInt8)), e = .returned v ∧ ss.Perm ks ∧ w'.ownsRow w.heap.size 9 1 v ss.length ((ss.mergeSort (fun x y => decide (x ≤ y))).map encStr) ∧ Below w.heap.size w w'
set_option maxHeartbeats 1000000 in
theorem sorted_some (b nn : Nat) (D0 : DataW Nat) (w : World) (hown : w.ownsMap Tryz.prog 9 RP b nn D0) (hn : Maps.size D0 ≤ 1000) :
    CallsIn Fence.wide 5 Tryz.prog 62 #[.func (.func 86) #[] #[.pointer (some ⟨w.heap.size, 0, none⟩)]] (w.alloc (.cells #[.map (some b)] 71))
      (SortedOf (w.alloc (.cells #[.map (some b)] 71)) (strKeys D0)) := by
  have hbl := hown.lt
  have hseq : SeqGives Fence.wide 2 Tryz.prog 86 #[.pointer (some ⟨w.heap.size, 0, none⟩)] encStr (fun ss => ss.Perm (strKeys D0)) (Maps.size D0) (w.alloc (.cells #[.map (some b)] 71)) :=
    AnyZ.keys_gives (ρ := Tryz.keys_ren) { Tryz.keys with } Fence.wide _ trivial rfl (by omega) w.heap.size b nn D0 _ (by simp) (by simp) (hown.alloc _)
  refine (AnyZ.sorted_in Tryz.sorted Fence.wide 5 trivial trivial trivial trivial rfl (by omega) (Tryz.sorts _) (enters_of Tryz.func85 (by kernel_rfl) rfl) 86 #[.pointer (some ⟨w.heap.size, 0, none⟩)] trivial (enters_of Tryz.func86 (by kernel_rfl) rfl) _ _ (by unfold maxLen; omega) (by omega) _ hseq).mono ?_
  rintro e w' ⟨v, ss, he, hp, hr, _, hb⟩
  exact ⟨v, ss, he, hp, hr, hb⟩
set_option maxHeartbeats 1000000 in
theorem sorted_none (w : World) :
    CallsIn Fence.wide 5 Tryz.prog 62 #[.func (.func 86) #[] #[.pointer (some ⟨w.heap.size, 0, none⟩)]] (w.alloc (.cells #[.map none] 71))
      (SortedOf (w.alloc (.cells #[.map none] 71)) []) := by
  have hseq : SeqGives Fence.wide 2 Tryz.prog 86 #[.pointer (some ⟨w.heap.size, 0, none⟩)] encStr (fun ss : List (List UInt8) => ss = []) 0 (w.alloc (.cells #[.map none] 71)) :=
    AnyZ.keys_gives_nil (ρ := Tryz.keys_ren) { Tryz.keys with } Fence.wide _ trivial rfl w.heap.size _ (by simp) (by simp)
  refine (AnyZ.sorted_in Tryz.sorted Fence.wide 5 trivial trivial trivial trivial rfl (by omega) (Tryz.sorts _) (enters_of Tryz.func85 (by kernel_rfl) rfl) 86 #[.pointer (some ⟨w.heap.size, 0, none⟩)] trivial (enters_of Tryz.func86 (by kernel_rfl) rfl) _ 0 (Nat.zero_le _) (by omega) _ hseq).mono ?_
  rintro e w' ⟨v, ss, he, hp, hr, _, hb⟩
  exact ⟨v, ss, he, by rw [hp], hr, hb⟩

set_option maxHeartbeats 1600000 in
theorem list_any {w : World} {p : Nat} {S : St} {mb : Option Nat} {L : List Ent} {O : Nat → Prop} (h : DK w p S mb L O) :
    Calls Tryz.prog 35 #[.pointer (some ⟨p, 0, none⟩)] w fun e w' => ∃ v, e = .returned v ∧ w'.ownsRow w.heap.size 9 1 v L.length ((L.map (·.name)).map encStr) ∧ Below w.heap.size w w' := by
  obtain ⟨_, c1, _⟩ := h.cells
  have hS : Hid (CallsIn Fence.wide 5 Tryz.prog 62 #[.func (.func 86) #[] #[.pointer (some ⟨w.heap.size, 0, none⟩)]] (w.alloc (.cells #[.map mb] 71))
      (SortedOf (w.alloc (.cells #[.map mb] 71)) (L.map (·.name)))) := by
    cases mb with
    | none => rw [h.none rfl]; exact sorted_none w
    | some b =>
      have := sorted_some b L.length (DL L) w (h.some b rfl) (by rw [size_DL]; have := h.few; omega)
      rw [strKeys_DL] at this
      exact this
  have hris := h.rising
  clear h
  refine (callsIn_wide (n := 6)).1 ?_
  have hfK : Fence.wide.fn 63 := trivial
  have hfS : Fence.wide.fn 62 := trivial
  refine callsIn_of_wp Tryz.func35 rfl trivial ?_ rfl
  simp only [Tryz.ntmps35, List.size_toArray, List.length_cons, List.length_nil, Nat.reduceAdd, Nat.reduceSub, Array.replicate_succ, Array.replicate_zero, List.push_toArray, List.append_toArray, List.nil_append, List.cons_append]
  gi_wp2_with (first
    | (gi_at_call 63; refine (keys_call _ _).mono ?_; rintro e w' ⟨rfl, rfl⟩)
    | (gi_at_call 62; refine (unhide hS).mono ?_; rintro e w' ⟨v, ss, rfl, hP, hrow, hb⟩))
  go_ret
  have hl : ss.length = L.length := by rw [hP.length_eq]; simp
  rw [sorted_names hris hP, hl] at hrow
  exact ⟨v, rfl, ownsRow_base_a hrow (by simp), ((Below.refl _ w).alloc (Nat.le_refl _) _).trans (hb.mono (by simp))⟩
end Go.Proofs.YthphadbcebeoaaaGreatDoor.Dk
/- put: a file comes under a name. -/
namespace Go.Proofs.YthphadbcebeoaaaGreatDoor.Dk
open Go.RowKit Go.Lib Go.Maps Go.WideMaps

theorem pairwise_insE {R : Ent → Ent → Prop} {e : Ent} : ∀ {L : List Ent}, L.Pairwise R → (∀ x ∈ L, R x e ∧ R e x) → (insE e L).Pairwise R
  | [], _, _ => List.pairwise_singleton _ _
  | y :: r, h, he => by
    obtain ⟨h1, h2⟩ := List.pairwise_cons.1 h
    unfold insE
    split
    · refine List.pairwise_cons.2 ⟨fun x hx => (he x hx).2, h⟩
    · refine List.pairwise_cons.2 ⟨fun x hx => ?_, pairwise_insE h2 (fun x hx => he x (by simp [hx]))⟩
      rcases mem_insE.1 hx with rfl | hx
      · exact (he y (by simp)).1
      · exact h1 x hx
theorem mem_delE {n : List UInt8} {L : List Ent} {x : Ent} : x ∈ delE n L ↔ x ∈ L ∧ x.name ≠ n := by
  unfold delE
  simp
theorem mem_putE {e x : Ent} {L : List Ent} : x ∈ putE e L ↔ x = e ∨ (x ∈ L ∧ x.name ≠ e.name) := by
  unfold putE
  rw [mem_insE, mem_delE]

/-- A file's blocks are no map's. -/
theorem file_kept {w w' : World} {e : Ent} {b : Nat} (h : FileAt w e) (ht : w.mapTurned w' b) : FileAt w' e := by
  obtain ⟨es, clock, es', clock', hb, rfl⟩ := ht
  have hne : ∀ {k : Nat} {c : Array Value} {T : TypeId}, w.heap[k]? = some (.cells c T (0, 0)) → (ChangeMaps.setBlock w b (.map es' clock')).heap[k]? = w.heap[k]? := fun {k c T} hk => ChangeMaps.heap_setBlock_other hb _ (by rintro rfl; rw [hb] at hk; cases hk)
  refine ⟨(hne h.blk).trans h.blk, ownsRow_of_same h.row (fun k hk => ?_), h.sure, h.len⟩
  rcases h.row.2 with ⟨e1, _⟩ | ⟨g, cap, cur, e1, _, hc, _⟩
  · rw [e1] at hk; simp [Value.ownBlock] at hk
  · rw [e1] at hk; simp [Value.ownBlock] at hk; subst hk
    exact hne hc

theorem dk_put {w w' : World} {p b n : Nat} {S : St} {L : List Ent} {O : Nat → Prop} (h : DK w p S (some b) L O) (e : Ent) (he : FileAt w e) (hap : ∀ x ∈ L, x.name ≠ e.name → Apart x e ∧ Apart e x)
    (hOf : O e.fp) (hOr : ∀ k, e.v.ownBlock = some k → O k) (hfew : (putE e L).length ≤ 64) (hown : w'.ownsMap Tryz.prog 9 RP b n ((DL L).put (.string e.name) (.held e.fp))) (ht : w.mapTurned w' b) : DK w' p S (some b) (putE e L) O := by
  rw [put_DL] at hown
  refine ⟨?_, fun hh => (by cases hh), fun b' hb' => ?_, fun x hx => ?_, ?_, hfew, h.oP, h.oM, fun x hx => ?_, fun x hx => ?_⟩
  · obtain ⟨es, clock, es', clock', hb, rfl⟩ := ht
    rw [ChangeMaps.heap_setBlock_other hb _ (by rintro rfl; have := h.disk; rw [hb] at this; cases this)]
    exact h.disk
  · cases hb'
    exact ownsMap_tight hown
  · rcases mem_putE.1 hx with rfl | ⟨hx, _⟩
    · exact file_kept he ht
    · exact file_kept (h.files x hx) ht
  · unfold putE
    refine pairwise_insE (h.apart.filter _) (fun x hx => ?_)
    obtain ⟨h1, h2⟩ := mem_delE.1 hx
    exact hap x h1 h2
  · rcases mem_putE.1 hx with rfl | ⟨hx, _⟩
    · exact hOf
    · exact h.oF x hx
  · rcases mem_putE.1 hx with rfl | ⟨hx, _⟩
    · exact hOr
    · exact h.oR x hx

theorem dk_made {w : World} {p : Nat} {S : St} {O : Nat → Prop} (h : DK w p S none [] O) :
    DK ((w.setCell ⟨p, 1, none⟩ (.map (some w.heap.size))).alloc (.map #[] 0)) p S (some w.heap.size) [] (fun k => O k ∨ k = w.heap.size) := by
  have hp := h.lt
  have hz : (w.setCell ⟨p, 1, none⟩ (.map (some w.heap.size))).heap.size = w.heap.size := by simp
  refine ⟨(Below.heap_alloc _ _ p (by rw [hz]; exact hp)).trans (heap_setCell_at h.disk 1 _), fun hh => (by cases hh), fun b hb => ?_, fun e he => (by cases he), List.Pairwise.nil, (by simp), .inl h.oP, fun b hb => (by cases hb; exact .inr rfl), fun e he => (by cases he), fun e he => (by cases he)⟩
  cases hb
  have := World.ownsMap_made (w.setCell ⟨p, 1, none⟩ (.map (some w.heap.size))) Tryz.prog 9 RP
  rw [hz] at this
  exact this

theorem below_of_drew {w w1 : World} (h : Below w.drew.heap.size w.drew w1) : Below w.heap.size w w1 := ((Below.refl w.heap.size w).drew).trans h
/-- O, and what came from n on. -/
def From (O : Nat → Prop) (n : Nat) (w : World) (k : Nat) : Prop := O k ∨ (n ≤ k ∧ k < w.heap.size)

theorem FrO.turned {O : Nat → Prop} {w w' : World} {b : Nat} (ht : w.mapTurned w' b) (hb : O b) : FrO O w w' :=
  ⟨ht.grown.size, fun k hk hn => ht.grown.block k hk (fun e => hn (by cases e; exact hb)), ht.grown.os, ht.grown.tape, ht.grown.output⟩
theorem turned_size {w w' : World} {b : Nat} (ht : w.mapTurned w' b) : w'.heap.size = w.heap.size := by
  obtain ⟨es, clock, es', clock', hb, rfl⟩ := ht
  simp [ChangeMaps.setBlock]

theorem FileAt.lt {w : World} {e : Ent} (h : FileAt w e) : e.fp < w.heap.size := (Array.getElem?_eq_some_iff.1 h.blk).1
theorem FileAt.below {w w' : World} {e : Ent} (h : FileAt w e) (hb : Below w.heap.size w w') : FileAt w' e := by
  refine ⟨(hb.block _ h.lt).trans h.blk, ownsRow_of_same h.row (fun k hk => ?_), h.sure, h.len⟩
  rcases h.row.2 with ⟨e1, _⟩ | ⟨g, cap, cur, e1, _, hc, _⟩
  · rw [e1] at hk; simp [Value.ownBlock] at hk
  · rw [e1] at hk; simp [Value.ownBlock] at hk; subst hk
    exact hb.block _ (Array.getElem?_eq_some_iff.1 hc).1

theorem put_fin {w w1 w2 : World} {p b n : Nat} {S : St} {L : List Ent} {O : Nat → Prop} (h : DK w p S (some b) L O) (e : Ent) (he : FileAt w e) (hap : ∀ x ∈ L, x.name ≠ e.name → Apart x e ∧ Apart e x)
    (hOf : O e.fp) (hOr : ∀ k, e.v.ownBlock = some k → O k) (hfew : (putE e L).length ≤ 64) (hO : ∀ k, O k → k < w.heap.size) (hb : Below w.heap.size w w1) (hown : w2.ownsMap Tryz.prog 9 RP b n ((DL L).put (.string e.name) (.held e.fp))) (ht : w1.mapTurned w2 b) :
    DK w2 p S (some b) (putE e L) O ∧ FrO O w w2 :=
  ⟨dk_put (h.below hO hb) e (he.below hb) hap hOf hOr hfew hown ht, FrO.trans (FrO.of_below (O := O) hb) (FrO.turned ht (h.oM b rfl)) (fun _ _ hk => hk)⟩

set_option maxHeartbeats 3200000 in
set_option maxRecDepth 100000 in
theorem put_any {w : World} {p : Nat} {S : St} {mb : Option Nat} {L : List Ent} {O : Nat → Prop} (s : ByteArray) (e : Ent) (hn : s.data.toList = e.name) (h : DK w p S mb L O) (hO : ∀ k, O k → k < w.heap.size) (hs : s.size ≤ 1000) (he : FileAt w e) (hap : ∀ x ∈ L, x.name ≠ e.name → Apart x e ∧ Apart e x)
    (hOf : O e.fp) (hOr : ∀ k, e.v.ownBlock = some k → O k) (hfew : (putE e L).length ≤ 64) :
    Calls Tryz.prog 48 #[.pointer (some ⟨p, 0, none⟩), .string s, .pointer (some ⟨e.fp, 0, none⟩)] w fun ev w' => ev = .returned (.tuple #[]) ∧ ∃ mb', DK w' p S mb' (putE e L) (From O w.heap.size w') ∧ FrO O w w' := by
  have hkey := keyOf_string_mk (P := Tryz.prog) (k := 9) Tryz.underlying9 (s := s) (by unfold maxLen; omega)
  rw [hn] at hkey
  obtain ⟨_, c1, _⟩ := h.cells
  have f1 := h.frz 1
  have hlt := h.lt
  have HC := hide (fun W => sclone_any s W (by omega))
  cases mb with
  | none =>
    have hL := h.none rfl
    subst hL
    have hnil := run_eql_map_nil (P := Tryz.prog) w 71 9 90 none Tryz.underlying71
    have hmk := run_makeMap (P := Tryz.prog) 71 w
    have HD := hide (dk_made h)
    have he1 : Hid (FileAt ((w.setCell ⟨p, 1, none⟩ (.map (some w.heap.size))).alloc (.map #[] 0)) e) := by
      have hb : ∀ {k : Nat} {c : Array Value} {T : TypeId}, T ≠ 73 → w.heap[k]? = some (.cells c T (0, 0)) → ((w.setCell ⟨p, 1, none⟩ (.map (some w.heap.size))).alloc (.map #[] 0)).heap[k]? = w.heap[k]? := fun {k c T} hT hk => by
        have hk' := (Array.getElem?_eq_some_iff.1 hk).1
        rw [Below.heap_alloc _ _ k (by simpa using hk'), heap_setCell_ne 1 _ (by rintro rfl; rw [h.disk] at hk; injection hk with hk; injection hk with _ h2; exact hT h2.symm)]
      refine ⟨(hb (by decide) he.blk).trans he.blk, ownsRow_of_same he.row (fun k hk => ?_), he.sure, he.len⟩
      rcases he.row.2 with ⟨e1, _⟩ | ⟨g, cap, cur, e1, _, hc, _⟩
      · rw [e1] at hk; simp [Value.ownBlock] at hk
      · rw [e1] at hk; simp [Value.ownBlock] at hk; subst hk
        exact hb (by decide) hc
    have HF := hide (((FrO.refl O w).set h.oP 1 (.map (some w.heap.size))).alloc (.map #[] 0))
    clear h he
    go_enter Tryz.func48, Tryz.ntmps48
    have hO2 : ∀ k, (O k ∨ k = w.heap.size) → k < ((w.setCell ⟨p, 1, none⟩ (.map (some w.heap.size))).alloc (.map #[] 0)).heap.size := fun k hk => by
      rcases hk with hk | hk
      · have := hO k hk; simp; omega
      · simp; omega
    go_wp2
    go_region_with (first
      | (go_at_call 61; refine (unhide HC _).mono ?_; rintro e1 w1 ⟨rfl, hb1⟩; have hd1 := (unhide HD).below hO2 (below_of_drew hb1); have c11 := hd1.cells.2.1; obtain ⟨w2, hrun2, hown2, hturn2⟩ := (hd1.some w.heap.size rfl).store Tryz.law Tryz.underlying71 (by unfold maxLen; simp) hkey (val := .pointer (some ⟨e.fp, 0, none⟩)) (d := .held e.fp) (ps := []) rfl))
    all_goals
      go_end0
      have hh := put_fin (unhide HD) e (unhide he1) hap (.inl hOf) (fun k hk => .inl (hOr k hk)) hfew hO2 (below_of_drew hb1) hown2 hturn2
      have hsz : w.heap.size < w2.heap.size := by
        have h1 := (below_of_drew hb1).size
        have h2 := turned_size hturn2
        simp at h1
        omega
      exact ⟨rfl, _, hh.1.mono (fun k hk => hk.elim .inl (fun e => .inr ⟨by omega, by omega⟩)), FrO.trans (unhide HF) hh.2 (fun k hk hh => hh.elim id (fun e => absurd hk (by omega)))⟩
  | some b =>
    have HD := hide h
    have HE := hide he
    have hnil := run_eql_map_nil (P := Tryz.prog) w 71 9 90 (some b) Tryz.underlying71
    clear h he
    go_enter Tryz.func48, Tryz.ntmps48
    go_wp2
    go_region_with (first
      | (go_at_call 61; refine (unhide HC _).mono ?_; rintro e1 w1 ⟨rfl, hb1⟩; have hd1 := (unhide HD).below hO (below_of_drew hb1); have c11 := hd1.cells.2.1; obtain ⟨w2, hrun2, hown2, hturn2⟩ := (hd1.some b rfl).store Tryz.law Tryz.underlying71 (by have := hd1.few; unfold maxLen; omega) hkey (val := .pointer (some ⟨e.fp, 0, none⟩)) (d := .held e.fp) (ps := []) rfl))
    all_goals
      go_end0
      have hh := put_fin (unhide HD) e (unhide HE) hap hOf hOr hfew hO (below_of_drew hb1) hown2 hturn2
      exact ⟨rfl, _, hh.1.mono (fun k hk => .inl hk), hh.2⟩
end Go.Proofs.YthphadbcebeoaaaGreatDoor.Dk
