/- The disk as the model holds it: a map of pointers to files; what its entries say, how they change. -/
import Derived.Test.YtpminalccnhkjaaGreatDoorJPlainDecHand
import Derived.Test.YtpminalccnhkjaaGreatDoorProg
import Derived.Maps.RangeWalk
import Derived.Sort.OwnSorted
import Derived.Sort.KeysCollected
import Derived.Maps.AppendAt
namespace Go.Proofs.YtpminalccnhkjaaGreatDoor.Dk
open Go.RowKit Go.Lib Go.Maps Go.WideShapes

/-- A file: its name, its block, its slice; its bytes, how many are sure. -/
structure Ent where
  name : List UInt8
  fp : Nat
  v : Value
  data : List UInt8
  sure : Nat

/-- How a pointer to a file reads. -/
def RP : Value → Option (DataW Nat × List MemPlace)
  | .pointer none => some (.nil, [])
  | .pointer (some ⟨b, 0, none⟩) => some (.held b, [])
  | _ => none
theorem RP_inv {v : Value} {z : DataW Nat × List MemPlace} (h : RP v = some z) : (v = .pointer none ∧ z = (.nil, [])) ∨ ∃ b, v = .pointer (some ⟨b, 0, none⟩) ∧ z = (.held b, []) := by
  unfold RP at h
  split at h
  · left; simpa using h.symm
  · right; refine ⟨_, rfl, ?_⟩; simpa using h.symm
  · cases h
theorem RP_held {v : Value} {b : Nat} {ps : List MemPlace} (h : RP v = some (.held b, ps)) : v = .pointer (some ⟨b, 0, none⟩) := by
  rcases RP_inv h with ⟨_, h2⟩ | ⟨b', h1, h2⟩
  · cases h2
  · cases h2; exact h1

def toD (L : List Ent) : List (Lit × DataW Nat) := L.map fun e => (.string e.name, .held e.fp)
def DL (L : List Ent) : DataW Nat := .map (toD L)
def look (L : List Ent) (n : List UInt8) : Option Ent := L.find? fun e => e.name == n
def insE (e : Ent) : List Ent → List Ent
  | [] => [e]
  | y :: r => if bytesBefore e.name y.name then e :: y :: r else y :: insE e r
def delE (n : List UInt8) (L : List Ent) : List Ent := L.filter fun x => !(x.name == n)
def putE (e : Ent) (L : List Ent) : List Ent := insE e (delE e.name L)

theorem find_toD (n : List UInt8) : ∀ L : List Ent, (toD L).find? (fun p => p.1.sameKey (.string n)) = (look L n).map fun e => (.string e.name, .held e.fp)
  | [] => rfl
  | e :: r => by
    have ih := find_toD n r
    unfold toD look at ih ⊢
    simp only [List.map_cons, List.find?_cons, Lit.sameKey]
    cases e.name == n
    · exact ih
    · rfl
theorem atKey_DL (L : List Ent) (n : List UInt8) (z : DataW Nat) : (DL L).atKey (.string n) z = match look L n with | some e => .held e.fp | none => z := by
  unfold DL DataW.atKey
  simp only [find_toD]
  cases look L n <;> rfl
theorem has_DL (n : List UInt8) : ∀ L : List Ent, Maps.has (DL L) (.string n) = (look L n).isSome
  | [] => rfl
  | e :: r => by
    have ih := has_DL n r
    have h1 : Maps.has (DL (e :: r)) (.string n) = ((e.name == n) || Maps.has (DL r) (.string n)) := rfl
    have h2 : look (e :: r) n = match e.name == n with | true => some e | false => look r n := rfl
    rw [h1, h2]
    cases e.name == n
    · simpa using ih
    · rfl
theorem size_DL (L : List Ent) : Maps.size (DL L) = L.length := by simp [Maps.size, DL, toD]
theorem toD_cons (y : Ent) (r : List Ent) : toD (y :: r) = (.string y.name, .held y.fp) :: toD r := rfl
theorem toD_insE (e : Ent) : ∀ L : List Ent, DataW.insert (.string e.name, .held e.fp) (toD L) = toD (insE e L)
  | [] => rfl
  | y :: r => by
    have ih := toD_insE e r
    by_cases hb : bytesBefore e.name y.name = true
    · have h' : (Lit.string e.name).before (Lit.string y.name) = true := hb
      rw [toD_cons, insE, if_pos hb, DataW.insert, if_pos h']; rfl
    · have h' : ¬ (Lit.string e.name).before (Lit.string y.name) = true := hb
      rw [toD_cons, insE, if_neg hb, DataW.insert, if_neg h', ih]; rfl
theorem toD_delE (n : List UInt8) (L : List Ent) : (toD L).filter (fun p => !p.1.sameKey (.string n)) = toD (delE n L) := by
  unfold toD delE
  rw [List.filter_map]
  rfl
theorem put_DL (e : Ent) (L : List Ent) : (DL L).put (.string e.name) (.held e.fp) = DL (putE e L) := by
  unfold DL DataW.put putE
  simp only [toD_delE, toD_insE]
theorem del_DL (n : List UInt8) (L : List Ent) : (DL L).del (.string n) = DL (delE n L) := by
  unfold DL DataW.del
  simp only [toD_delE]
theorem strKeys_DL (L : List Ent) : strKeys (DL L) = L.map (·.name) := by
  unfold strKeys DL toD
  simp [strOf]

/-- Names rise. -/
def Rising (L : List Ent) : Prop := L.Pairwise fun a b => bytesBefore a.name b.name = true
theorem bb_irrefl (a : List UInt8) : bytesBefore a a = false := by
  have := before_irrefl (.string a)
  simpa [Lit.before] using this
theorem bb_trans {a b c : List UInt8} (h : bytesBefore a b = true) (h' : bytesBefore b c = true) : bytesBefore a c = true := by
  have := before_trans (a := .string a) (b := .string b) (c := .string c) h h'
  simpa [Lit.before] using this
theorem bb_ne {a b : List UInt8} (h : bytesBefore a b = true) : a ≠ b := by
  rintro rfl; rw [bb_irrefl] at h; cases h
theorem Rising.distinct {L : List Ent} (h : Rising L) : L.Pairwise fun a b => a.name ≠ b.name := h.imp fun h => bb_ne h
theorem look_mem {L : List Ent} {n : List UInt8} {e : Ent} (h : look L n = some e) : e ∈ L ∧ e.name = n := by
  unfold look at h
  exact ⟨List.mem_of_find?_eq_some h, by simpa using List.find?_some h⟩
theorem look_none {L : List Ent} {n : List UInt8} (h : look L n = none) : ∀ e ∈ L, e.name ≠ n := by
  unfold look at h
  simpa using h
theorem look_of_mem {L : List Ent} (hr : Rising L) {e : Ent} (he : e ∈ L) : look L e.name = some e := by
  induction L with
  | nil => simp at he
  | cons y r ih =>
    obtain ⟨h1, h2⟩ := List.pairwise_cons.1 hr
    unfold look
    rw [List.find?_cons]
    rcases List.mem_cons.1 he with rfl | he'
    · simp
    · have : (y.name == e.name) = false := by simpa using bb_ne (h1 e he')
      rw [this]
      exact ih h2 he'
theorem delE_all {n : List UInt8} {L : List Ent} (h : ∀ e ∈ L, e.name ≠ n) : delE n L = L := by
  unfold delE
  rw [List.filter_eq_self]
  intro e he
  simpa using h e he
/-- What is there already is put where it is. -/
theorem putE_same {L : List Ent} (hr : Rising L) {e : Ent} (he : e ∈ L) : putE e L = L := by
  induction L with
  | nil => simp at he
  | cons y r ih =>
    obtain ⟨h1, h2⟩ := List.pairwise_cons.1 hr
    rcases List.mem_cons.1 he with rfl | he'
    · have hd : delE e.name (e :: r) = r := by
        have := delE_all (n := e.name) (L := r) (fun x hx => (bb_ne (h1 x hx)).symm)
        unfold delE at this ⊢
        simp [this]
      unfold putE
      rw [hd]
      cases r with
      | nil => rfl
      | cons z r' => unfold insE; rw [if_pos (h1 z (by simp))]
    · have hye := h1 e he'
      have hne := bb_ne hye
      have hd : delE e.name (y :: r) = y :: delE e.name r := by unfold delE; simp [hne]
      have hnb : ¬ bytesBefore e.name y.name = true := fun h => by
        have := bb_trans h hye
        rw [bb_irrefl] at this; cases this
      have ih' := ih h2 he'
      unfold putE at ih' ⊢
      rw [hd]
      unfold insE
      rw [if_neg hnb, ih']
theorem mem_insE {e x : Ent} {L : List Ent} : x ∈ insE e L ↔ x = e ∨ x ∈ L := by
  induction L with
  | nil => simp [insE]
  | cons y r ih =>
    unfold insE
    split
    · simp
    · simp only [List.mem_cons, ih]
      constructor
      · rintro (h | h | h) <;> simp [h]
      · rintro (h | h | h) <;> simp [h]
theorem length_insE (e : Ent) (L : List Ent) : (insE e L).length = L.length + 1 := by
  induction L with
  | nil => rfl
  | cons y r ih =>
    unfold insE
    split
    · rfl
    · simp [ih]
theorem ownsMap_tight {P : Program} {k : TypeId} {w : World} {b n : Nat} {L : List Ent} (h : w.ownsMap P k RP b n (DL L)) : w.ownsMap P k RP b L.length (DL L) := by
  obtain ⟨es, clock, hb, F, hs, hD⟩ := h
  refine ⟨es, clock, hb, F, ?_, hD⟩
  have e1 := congrArg Maps.size hD
  rw [size_DL] at e1
  rw [e1]
  simp [Maps.size, length_sorted]
theorem ownsMap_rising {P : Program} {k : TypeId} (K : Keyed P k) {w : World} {b n : Nat} {L : List Ent} (h : w.ownsMap P k RP b n (DL L)) : Rising L := by
  obtain ⟨es, clock, hb, F, hs, hD⟩ := h
  have s := sorted_sorted K.one _ (fit_keys F) (fit_apart K F)
  have e : toD L = (es.toList.map (WideElems.rg P k RP)).foldr DataW.insert [] := by
    unfold DL at hD; exact DataW.map.inj hD
  rw [← e] at s
  unfold toD at s
  rw [List.pairwise_map] at s
  exact s
end Go.Proofs.YtpminalccnhkjaaGreatDoor.Dk
