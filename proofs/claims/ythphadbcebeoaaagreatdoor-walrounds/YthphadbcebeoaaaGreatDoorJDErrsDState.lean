/- Contracts of errors.Is and errors.As at the errors that the program makes: a *api.Within that wraps an api.Class. -/
import Derived.WalkKit
import Derived.Test.YthphadbcebeoaaaGreatDoorProg
import Derived.LaidEql
import Derived.Stop.Asserts
import Derived.RowKitTokens
import Derived.Lib.IfaceEq
import Derived.Test.YthphadbcebeoaaaGreatDoorJPlainDecDDef
import Derived.Deep.RegionWith
namespace Go.Proofs.YthphadbcebeoaaaGreatDoor.Dk
open Go.RowKit Go.Extern.Stop Go.Stop Go.Extern Go.Lib

theorem Tryz.isTypeOfC (v : Value) (w : World) : (Extern.ReflectliteType.typeOf #[.iface 75 v]).run Tryz.prog w = .ok (.iface 149 (.agg #[.pointer (some ⟨2, 75, none⟩)])) w := by kernel_rfl
theorem Tryz.isComparableC (w : World) : Sem.run Tryz.prog (callFunc 170 #[.agg #[.pointer (some ⟨2, 75, none⟩)]]) w = .ok (.value (.bool true)) w := by
  have h := @run_callFunc_extern Tryz.prog 170 _ (Extern.ReflectliteType.method fun t => do Rtype.noPackHeld "Comparable" t; pure (.bool (← typeInfo t).comparable)) Tryz.func170 (by kernel_rfl) (by kernel_rfl) (by kernel_rfl) (by kernel_rfl)
  rw [h]
  have e : Sem.run Tryz.prog (Extern.ReflectliteType.method (fun t => do Rtype.noPackHeld "Comparable" t; pure (.bool (← typeInfo t).comparable)) #[.agg #[.pointer (some ⟨2, 75, none⟩)]]) w = .ok (.bool true) w := by kernel_rfl
  rw [e]; rfl
theorem Tryz.isMethodComparable (v : Value) (w : World) : (Go.method 354 149 v "Comparable").run Tryz.prog w = .ok (170, v) w := by kernel_rfl
theorem Tryz.isCompC : (Tryz.prog.info? 75).map (·.comparable) = some true := by kernel_rfl
theorem Tryz.noIsC (v : Value) (xT : TypeId) (w : World) : (Instr.typeAssert (.iface 75 v) xT 151 true).run Tryz.prog w = .ok (.tuple #[.nilIface, .bool false]) w := run_typeAssert_lacksB Tryz.underlying151 (by kernel_rfl) (by kernel_rfl) v xT w
theorem Tryz.noAsC (v : Value) (xT : TypeId) (w : World) : (Instr.typeAssert (.iface 75 v) xT 167 true).run Tryz.prog w = .ok (.tuple #[.nilIface, .bool false]) w := run_typeAssert_lacksB Tryz.underlying167 (by kernel_rfl) (by kernel_rfl) v xT w
theorem Tryz.noUnwrapC (v : Value) (xT : TypeId) (w : World) : (Instr.typeAssert (.iface 75 v) xT 153 true).run Tryz.prog w = .ok (.tuple #[.nilIface, .bool false]) w := run_typeAssert_lacksB Tryz.underlying153 (by kernel_rfl) (by kernel_rfl) v xT w
theorem Tryz.noUnwrapsC (v : Value) (xT : TypeId) (w : World) : (Instr.typeAssert (.iface 75 v) xT 154 true).run Tryz.prog w = .ok (.tuple #[.nilIface, .bool false]) w := run_typeAssert_lacksB Tryz.underlying154 (by kernel_rfl) (by kernel_rfl) v xT w
theorem Tryz.noIsP (v : Value) (xT : TypeId) (w : World) : (Instr.typeAssert (.iface 144 v) xT 151 true).run Tryz.prog w = .ok (.tuple #[.nilIface, .bool false]) w := run_typeAssert_lacksB Tryz.underlying151 (by kernel_rfl) (by kernel_rfl) v xT w
theorem Tryz.noAsP (v : Value) (xT : TypeId) (w : World) : (Instr.typeAssert (.iface 144 v) xT 167 true).run Tryz.prog w = .ok (.tuple #[.nilIface, .bool false]) w := run_typeAssert_lacksB Tryz.underlying167 (by kernel_rfl) (by kernel_rfl) v xT w
theorem Tryz.hasUnwrapP (v : Value) (xT : TypeId) (w : World) : (Instr.typeAssert (.iface 144 v) xT 153 true).run Tryz.prog w = .ok (.tuple #[.iface 144 v, .bool true]) w := run_typeAssert_hasB Tryz.underlying153 (by kernel_rfl) v xT w
theorem Tryz.methodUnwrap (v : Value) (w : World) : (Go.method 354 144 v "Unwrap").run Tryz.prog w = .ok (167, v) w := by kernel_rfl

set_option maxHeartbeats 1600000 in
/-- errors.Is(nil, class). -/
theorem is_nil (t : Int) (w : World) :
    Calls Tryz.prog 29 #[.nilIface, .iface 75 (.int .i64 t)] w fun e w' => e = .returned (.bool false) ∧ w' = w := by
  have hn := run_eql_iface_nil_left (P := Tryz.prog) w 75 (.int .i64 t) Tryz.underlying31
  go_enter Tryz.func29, Tryz.ntmps29
  go_wp2
  go_ret
  exact ⟨rfl, rfl⟩

set_option maxHeartbeats 4000000 in
/-- errors.Is at a placed error: by its class. -/
theorem is_placed (p : Nat) (c t : Int) (w : World) (h1 : w.cell? ⟨p, 1, none⟩ = some (.iface 75 (.int .i64 c))) :
    Calls Tryz.prog 29 #[.iface 144 (.pointer (some ⟨p, 0, none⟩)), .iface 75 (.int .i64 t)] w fun e w' => e = .returned (.bool (c == t)) ∧ w' = w := by
  have hTO := @run_callFunc_extern Tryz.prog 51 _ Extern.ReflectliteType.typeOf Tryz.func51 (by kernel_rfl) (by kernel_rfl) (by kernel_rfl) (by kernel_rfl)
  have tT := Tryz.isTypeOfC
  have cT := Tryz.isComparableC
  have mR := Tryz.isMethodComparable
  have nE := Tryz.noIsC
  have uE := Tryz.noUnwrapC
  have vE := Tryz.noUnwrapsC
  have nW := Tryz.noIsP
  have uW := Tryz.hasUnwrapP
  have mU := Tryz.methodUnwrap
  have heq := run_eql_iface_int (P := Tryz.prog) (k := .i64) w c t Tryz.underlying31 Tryz.isCompC Tryz.underlying75
  have hty := run_eql_iface_types (P := Tryz.prog) 144 75 (.pointer (some ⟨p, 0, none⟩)) (.int .i64 t) Tryz.underlying31 (by decide) w
  by_cases hct : (c == t) = true
  · go_enter Tryz.func29, Tryz.ntmps29
    go_wp2
    refine wp_loop_rounds 2 ?_
    rw [rounds_succ]
    go_wp2
    rw [rounds_succ]
    go_wp2
    go_ret
    exact ⟨by rw [hct]; rfl, rfl⟩
  · have hct' : (c == t) = false := by simpa using hct
    go_enter Tryz.func29, Tryz.ntmps29
    go_wp2
    refine wp_loop_rounds 2 ?_
    rw [rounds_succ]
    go_wp2
    rw [rounds_succ]
    go_wp2
    go_ret
    exact ⟨by rw [hct']; rfl, rfl⟩
end Go.Proofs.YthphadbcebeoaaaGreatDoor.Dk
/- A disk in memory; find, Halt, Count, New. -/
namespace Go.Proofs.YthphadbcebeoaaaGreatDoor.Dk
open Go.RowKit Go.Lib Go.Maps Go.WideShapes Go.WideMaps

structure St where
  room : Int
  count : Int
  off : Bool
  halting : Bool
  left : Int

/-- A file in memory: a row of bytes of its own. -/
structure FileAt (w : World) (e : Ent) : Prop where
  blk : w.heap[e.fp]? = some (.cells #[e.v, .int .i64 (e.sure : Int)] 104 (0, 0))
  row : w.ownsRow 0 5 1 e.v e.data.length (byteCells e.data)
  sure : e.sure ≤ e.data.length
  len : e.data.length ≤ 1048576

def cellsOf (S : St) (mb : Option Nat) : Array Value := #[.int .i64 S.room, .map mb, .int .i64 S.count, .bool S.off, .bool S.halting, .int .i64 S.left]

/-- Apart: two files share nothing. -/
def Apart (a b : Ent) : Prop := a.fp ≠ b.fp ∧ ∀ k, a.v.ownBlock = some k → b.v.ownBlock ≠ some k

/-- A disk at block p: its numbers, its map's block, its files; all its blocks are among O. -/
structure DK (w : World) (p : Nat) (S : St) (mb : Option Nat) (L : List Ent) (O : Nat → Prop) : Prop where
  disk : w.heap[p]? = some (.cells (cellsOf S mb) 73 (0, 0))
  none : mb = none → L = []
  some : ∀ b, mb = some b → w.ownsMap Tryz.prog 9 RP b L.length (DL L)
  files : ∀ e ∈ L, FileAt w e
  apart : L.Pairwise Apart
  few : L.length ≤ 64
  oP : O p
  oM : ∀ b, mb = .some b → O b
  oF : ∀ e ∈ L, O e.fp
  oR : ∀ e ∈ L, ∀ k, e.v.ownBlock = .some k → O k

theorem Tryz.law : Keyed Tryz.prog 9 := string_keyed Tryz.underlying9
theorem DK.rising {w : World} {p : Nat} {S : St} {mb : Option Nat} {L : List Ent} {O : Nat → Prop} (h : DK w p S mb L O) : Rising L := by
  cases mb with
  | none => rw [h.none rfl]; exact List.Pairwise.nil
  | some b => exact ownsMap_rising Tryz.law (h.some b rfl)
theorem cellB {w : World} {p : Nat} {cur : Array Value} {T : TypeId} (h : w.heap[p]? = some (.cells cur T (0, 0))) (i : Nat) : w.cell? ⟨p, i, none⟩ = cur[i]? ∧ w.frozen? ⟨p, i, none⟩ = false := by
  constructor
  · simp [World.cell?, h]
  · simp [World.frozen?, h]
theorem DK.cells {w : World} {p : Nat} {S : St} {mb : Option Nat} {L : List Ent} {O : Nat → Prop} (h : DK w p S mb L O) :
    w.cell? ⟨p, 0, .none⟩ = .some (.int .i64 S.room) ∧ w.cell? ⟨p, 1, .none⟩ = .some (.map mb) ∧ w.cell? ⟨p, 2, .none⟩ = .some (.int .i64 S.count) ∧ w.cell? ⟨p, 3, .none⟩ = .some (.bool S.off) ∧ w.cell? ⟨p, 4, .none⟩ = .some (.bool S.halting) ∧ w.cell? ⟨p, 5, .none⟩ = .some (.int .i64 S.left) := by
  refine ⟨?_, ?_, ?_, ?_, ?_, ?_⟩ <;> rw [(cellB h.disk _).1] <;> rfl
theorem DK.frz {w : World} {p : Nat} {S : St} {mb : Option Nat} {L : List Ent} {O : Nat → Prop} (h : DK w p S mb L O) (i : Nat) : w.frozen? ⟨p, i, .none⟩ = false := (cellB h.disk i).2
theorem DK.mono {w : World} {p : Nat} {S : St} {mb : Option Nat} {L : List Ent} {O O' : Nat → Prop} (h : DK w p S mb L O) (ho : ∀ k, O k → O' k) : DK w p S mb L O' :=
  ⟨h.disk, h.none, h.some, h.files, h.apart, h.few, ho _ h.oP, fun b hb => ho _ (h.oM b hb), fun e he => ho _ (h.oF e he), fun e he k hk => ho _ (h.oR e he k hk)⟩

theorem ownsRow_of_same {w w' : World} {B : Nat} {T : TypeId} {v : Value} {n : Nat} {xs : List Value} (h : w.ownsRow B T 1 v n xs) (hs : ∀ k, v.ownBlock = some k → w'.heap[k]? = w.heap[k]?) : w'.ownsRow B T 1 v n xs := by
  obtain ⟨h1, h2 | ⟨g, cap, cur, rfl, hb, hc, r⟩⟩ := h
  · exact ⟨h1, .inl h2⟩
  · exact ⟨h1, .inr ⟨g, cap, cur, rfl, hb, (hs g rfl).trans hc, r⟩⟩
theorem ownsMap_of_same {P : Program} {k : TypeId} {w w' : World} {b n : Nat} {D : DataW Nat} (h : w.ownsMap P k RP b n D) (hs : w'.heap[b]? = w.heap[b]?) : w'.ownsMap P k RP b n D := by
  obtain ⟨es, clock, hb, r⟩ := h
  exact ⟨es, clock, hs.trans hb, r⟩
/-- A disk stays while none of its blocks turns. -/
theorem DK.same {w w' : World} {p : Nat} {S : St} {mb : Option Nat} {L : List Ent} {O : Nat → Prop} (h : DK w p S mb L O) (hs : ∀ k, O k → w'.heap[k]? = w.heap[k]?) : DK w' p S mb L O :=
  ⟨(hs _ h.oP).trans h.disk, h.none, fun b hb => ownsMap_of_same (h.some b hb) (hs _ (h.oM b hb)), fun e he => ⟨(hs _ (h.oF e he)).trans (h.files e he).blk, ownsRow_of_same (h.files e he).row (fun k hk => hs _ (h.oR e he k hk)), (h.files e he).sure, (h.files e he).len⟩,
    h.apart, h.few, h.oP, h.oM, h.oF, h.oR⟩
theorem DK.lt {w : World} {p : Nat} {S : St} {mb : Option Nat} {L : List Ent} {O : Nat → Prop} (h : DK w p S mb L O) : p < w.heap.size := (Array.getElem?_eq_some_iff.1 h.disk).1

/-- What is around stays. -/
def Env (w w' : World) : Prop := w'.os = w.os ∧ w'.tape = w.tape ∧ w'.output = w.output
theorem Env.trans {a b c : World} (h : Env a b) (h' : Env b c) : Env a c := ⟨h'.1.trans h.1, h'.2.1.trans h.2.1, h'.2.2.trans h.2.2⟩
/-- Nothing but blocks of O turns. -/
structure FrO (O : Nat → Prop) (w w' : World) : Prop where
  size : w.heap.size ≤ w'.heap.size
  blk : ∀ k, k < w.heap.size → ¬ O k → w'.heap[k]? = w.heap[k]?
  env : Env w w'
theorem FrO.refl (O : Nat → Prop) (w : World) : FrO O w w := ⟨Nat.le_refl _, fun _ _ _ => rfl, rfl, rfl, rfl⟩
theorem FrO.of_below {O : Nat → Prop} {w w' : World} (h : Below w.heap.size w w') : FrO O w w' := ⟨h.size, fun k hk _ => h.block k hk, h.os, h.tape, h.output⟩
/-- O, and what is new. -/
def Up (O : Nat → Prop) (w w' : World) (k : Nat) : Prop := O k ∨ (w.heap.size ≤ k ∧ k < w'.heap.size)
theorem FrO.trans {O O' : Nat → Prop} {a b c : World} (h : FrO O a b) (h' : FrO O' b c) (ho : ∀ k, k < a.heap.size → O' k → O k) : FrO O a c :=
  ⟨Nat.le_trans h.size h'.size, fun k hk hn => (h'.blk k (Nat.lt_of_lt_of_le hk h.size) (fun hk' => hn (ho k hk hk'))).trans (h.blk k hk hn), h.env.trans h'.env⟩

theorem Tryz.zeroP (w : World) : (zeroValue 90).run Tryz.prog w = .ok (.pointer none) w := by kernel_rfl

/-- What find tells. -/
def FindRes (L : List Ent) (n : List UInt8) : Value := match look L n with
  | some e => .tuple #[.pointer (some ⟨e.fp, 0, none⟩), .nilIface]
  | none => .tuple #[.pointer none, .iface 75 (.int .i64 30)]

set_option maxHeartbeats 1600000 in
theorem find_any {w : World} {p : Nat} {S : St} {mb : Option Nat} {L : List Ent} {O : Nat → Prop} (s : ByteArray) (h : DK w p S mb L O) (hs : s.size ≤ maxLen) :
    Calls Tryz.prog 44 #[.pointer (some ⟨p, 0, none⟩), .string s] w fun e w' => e = .returned (FindRes L s.data.toList) ∧ w' = w := by
  have hkey := keyOf_string_mk (P := Tryz.prog) (k := 9) Tryz.underlying9 hs
  obtain ⟨_, c1, _⟩ := h.cells
  cases mb with
  | none =>
    have hL := h.none rfl
    subst hL
    have hrun := Maps.look_nil (w := w) true Tryz.law Tryz.underlying71 (Tryz.zeroP w) hkey
    simp only [if_true] at hrun
    clear h
    go_enter Tryz.func44, Tryz.ntmps44
    go_wp2
    go_ret2
    exact ⟨rfl, rfl⟩
  | some b =>
    obtain ⟨v, ps, hrun, hv⟩ := (h.some b rfl).look_ok Tryz.law Tryz.underlying71 (Tryz.zeroP w) (zd := .nil) (zp := []) rfl hkey
    rw [has_DL] at hrun
    rw [atKey_DL] at hv
    clear h
    unfold FindRes
    cases hl : look L s.data.toList with
    | none =>
      rw [hl] at hrun hv
      simp only [Option.isSome_none] at hrun
      rcases RP_inv hv with ⟨rfl, _⟩ | ⟨b', _, h2⟩
      · go_enter Tryz.func44, Tryz.ntmps44
        go_wp2
        go_ret2
        exact ⟨rfl, rfl⟩
      · cases h2
    | some e =>
      rw [hl] at hrun hv
      simp only [Option.isSome_some] at hrun
      have := RP_held hv
      subst this
      go_enter Tryz.func44, Tryz.ntmps44
      go_wp2
      go_ret2
      exact ⟨rfl, rfl⟩

theorem halt_same {w : World} {p : Nat} {S : St} {mb : Option Nat} {L : List Ent} {O : Nat → Prop} (h : DK w p S mb L O) {w' : World} (S' : St) (hO : ∀ k, k ≠ p → w'.heap[k]? = w.heap[k]?) (hp : w'.heap[p]? = some (.cells (cellsOf S' mb) 73 (0, 0))) : DK w' p S' mb L O := by
  have hne : ∀ {k : Nat} {o : Obj}, w.heap[k]? = some o → (∀ c, o ≠ .cells c 73 (0, 0)) → w'.heap[k]? = w.heap[k]? := fun {k o} hk ho => hO k (by rintro rfl; rw [h.disk] at hk; injection hk with hk; exact ho _ hk.symm)
  refine ⟨hp, h.none, fun b hb => ?_, fun e he => ?_, h.apart, h.few, h.oP, h.oM, h.oF, h.oR⟩
  · have hm := h.some b hb
    refine ownsMap_of_same hm ?_
    obtain ⟨es, clock, hb', _⟩ := hm
    exact hne hb' (fun c => by simp)
  · have hf := h.files e he
    refine ⟨(hne hf.blk (fun c => by simp)).trans hf.blk, ownsRow_of_same hf.row (fun k hk => ?_), hf.sure, hf.len⟩
    rcases hf.row.2 with ⟨e1, _⟩ | ⟨g, cap, cur, e1, _, hc, _⟩
    · rw [e1] at hk; simp [Value.ownBlock] at hk
    · rw [e1] at hk; simp [Value.ownBlock] at hk; subst hk
      exact hne hc (fun c => by simp)

theorem heap_setCell_at {w : World} {p : Nat} {cur : Array Value} {T : TypeId} (h : w.heap[p]? = some (.cells cur T (0, 0))) (i : Nat) (v : Value) : (w.setCell ⟨p, i, none⟩ v).heap[p]? = some (.cells (cur.setIfInBounds i v) T (0, 0)) := by
  simp only [World.setCell]
  rw [Array.getElem?_modify, if_pos rfl, h]
  rfl

theorem heap_setCell_ne {w : World} {p k : Nat} (i : Nat) (v : Value) (h : k ≠ p) : (w.setCell ⟨p, i, none⟩ v).heap[k]? = w.heap[k]? := Below.heap_setCell w ⟨p, i, none⟩ v k h
theorem FrO.set {O : Nat → Prop} {a w : World} {p : Nat} (h : FrO O a w) (hp : O p) (i : Nat) (v : Value) : FrO O a (w.setCell ⟨p, i, none⟩ v) :=
  ⟨by simpa using h.size, fun k hk hn => (heap_setCell_ne i v (fun e => hn (by rw [e]; exact hp))).trans (h.blk k hk hn), h.env.trans ⟨rfl, rfl, rfl⟩⟩
theorem FrO.alloc {O : Nat → Prop} {a w : World} (h : FrO O a w) (o : Obj) : FrO O a (w.alloc o) :=
  ⟨by have := h.size; simp; omega, fun k hk hn => (Below.heap_alloc w o k (Nat.lt_of_lt_of_le hk h.size)).trans (h.blk k hk hn), h.env.trans ⟨rfl, rfl, rfl⟩⟩

set_option maxHeartbeats 1600000 in
theorem halt_any {w : World} {p : Nat} {S : St} {mb : Option Nat} {L : List Ent} {O : Nat → Prop} (n : Int) (h : DK w p S mb L O) :
    Calls Tryz.prog 23 #[.pointer (some ⟨p, 0, none⟩), .int .i64 n] w fun e w' => e = .returned (.tuple #[]) ∧ DK w' p { S with halting := decide (0 ≤ n), left := n } mb L O ∧ FrO O w w' := by
  obtain ⟨_, _, _, _, c4, c5⟩ := h.cells
  have f4 := h.frz 4
  have f5 := h.frz 5
  have H := hide h
  clear h
  go_enter Tryz.func23, Tryz.ntmps23
  go_wp2
  go_end0
  have h := unhide H
  exact ⟨rfl, halt_same h _ (fun k hk => (heap_setCell_ne _ _ hk).trans (heap_setCell_ne _ _ hk)) (heap_setCell_at (heap_setCell_at h.disk 4 _) 5 _), ((FrO.refl O w).set h.oP 4 _).set h.oP 5 _⟩

/-- New: a disk without files. -/
theorem new_any (w : World) (room : Int) (hr : 0 ≤ room) :
    Calls Tryz.prog 8 #[.int .i64 room] w fun e w' => e = .returned (.pointer (some ⟨w.heap.size, 0, none⟩)) ∧ DK w' w.heap.size ⟨room, 0, false, false, 0⟩ none [] (fun k => k = w.heap.size) ∧ Below w.heap.size w w' ∧ w'.heap.size = w.heap.size + 1 := by
  go_enter Tryz.func8, Tryz.ntmps8
  go_wp2
  go_ret
  exact ⟨rfl, ⟨(MapKept.heap_alloc w _).1, fun _ => rfl, fun b hb => (by cases hb), fun e he => (by cases he), List.Pairwise.nil, (by simp), rfl, fun b hb => (by cases hb), fun e he => (by cases he), fun e he => (by cases he)⟩, (Below.refl _ _).alloc (Nat.le_refl _) _, by simp⟩

abbrev evW (b : Nat) : Value := .iface 144 (.pointer (some ⟨b, 0, none⟩))
abbrev evC (c : Int) : Value := .iface 75 (.int .i64 c)
/-- A wrapped class in memory. -/
def ErrW (w : World) (b : Nat) (c : Int) : Prop := w.cell? ⟨b, 1, none⟩ = some (evC c)
/-- The variable errors.errorType as the program's text lays it. -/
def ET (w : World) : Prop := w.cell? ⟨0, 0, none⟩ = some (.iface 149 (.agg #[.pointer (some ⟨2, 31, none⟩)]))
theorem lt_of_cell {w : World} {a : Addr} {v : Value} (h : w.cell? a = some v) : a.block < w.heap.size := by
  rcases Nat.lt_or_ge a.block w.heap.size with h' | h'
  · exact h'
  · simp [World.cell?, Array.getElem?_eq_none h'] at h
theorem ET.lt {w : World} (h : ET w) : 0 < w.heap.size := lt_of_cell h
theorem ET.below {w w' : World} {B : Nat} (h : ET w) (hb : Below B w w') (hB : 0 < B) : ET w' := by
  unfold ET; rw [hb.cell (p := ⟨0, 0, none⟩) hB]; exact h
theorem ET.alloc {w : World} (h : ET w) (o : Obj) : ET (w.alloc o) := by
  unfold ET; rw [World.cell?_alloc_lt _ _ ⟨0, 0, none⟩ h.lt]; exact h
theorem ErrW.lt {w : World} {b : Nat} {c : Int} (h : ErrW w b c) : b < w.heap.size := lt_of_cell h
theorem ErrW.below {w w' : World} {B b : Nat} {c : Int} (h : ErrW w b c) (hb : Below B w w') (hB : b < B) : ErrW w' b c := (hb.cell (p := ⟨b, 1, none⟩) hB).trans h
theorem ErrW.alloc {w : World} {b : Nat} {c : Int} (h : ErrW w b c) (o : Obj) : ErrW (w.alloc o) b c := (World.cell?_alloc_lt _ _ ⟨b, 1, none⟩ h.lt).trans h
theorem cell_same {w w' : World} {k : Nat} (h : w'.heap[k]? = w.heap[k]?) (i : Nat) : w'.cell? ⟨k, i, none⟩ = w.cell? ⟨k, i, none⟩ := World.cell?_of_block (w := w) (a := ⟨k, i, none⟩) h
theorem ErrW.fr {O : Nat → Prop} {w w' : World} {b : Nat} {c : Int} (h : ErrW w b c) (hf : FrO O w w') (hb : ¬ O b) : ErrW w' b c := (cell_same (hf.blk b h.lt hb) 1).trans h
theorem ET.fr {O : Nat → Prop} {w w' : World} (h : ET w) (hf : FrO O w w') (hb : ¬ O 0) : ET w' := (cell_same (hf.blk _ h.lt hb) 0).trans h
end Go.Proofs.YthphadbcebeoaaaGreatDoor.Dk
