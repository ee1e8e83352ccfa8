/- Truncate, Remove, Rename in terms of names, bytes, how many are sure. -/
import Derived.Test.YtpminalccnhkjaaGreatDoorDAbs
import Derived.Test.YtpminalccnhkjaaGreatDoorJDTruncDRen
import Derived.Test.YtpminalccnhkjaaGreatDoorJPlainDecHand
import Derived.Test.YtpminalccnhkjaaGreatDoorProg
namespace Go.Proofs.YtpminalccnhkjaaGreatDoor.Dk
open Go.RowKit Go.Lib Go.Maps Go.WideMaps

theorem truncC_er (L : List Ent) (n : List UInt8) (m : Int) : truncC (L.map er) n m = truncC L n m := by
  unfold truncC
  rw [look_er]
  cases look L n <;> rfl
theorem renC_er (L : List Ent) (a b : List UInt8) : renC (L.map er) a b = renC L a b := by unfold renC; rw [thereC_er]

theorem dx_remove {w : World} {p : Nat} {S : St} {F : List Ent} {O : Nat → Prop} (s : ByteArray) (h : DX w p S F O) (hE : ET w) (hs : s.size ≤ maxLen) (hc : 0 ≤ S.count ∧ S.count < 1000000000) (hl : S.halting = true → 0 ≤ S.left ∧ S.left < 9223372036854775808) :
    Calls Tryz.prog 48 #[.pointer (some ⟨p, 0, none⟩), .string s] w fun e w' => ∃ v', e = .returned v' ∧ ErrOut (Old w) w' v' (beginS S (thereC F s.data.toList)).2 ∧
      DX w' p (beginS S (thereC F s.data.toList)).1 (if (beginS S (thereC F s.data.toList)).2 = 0 then delE s.data.toList F else F) O ∧ FrO O w w' := by
  obtain ⟨mb, L, hd, hO, rfl⟩ := h
  rw [thereC_er]
  refine (remove_any s hd hO hE hs hc hl).mono ?_
  rintro e w' ⟨v', L', rfl, he, hd', hf, h1, h2⟩
  refine ⟨v', rfl, he, ⟨mb, L', hd', fun k hk => Nat.lt_of_lt_of_le (hO k hk) hf.size, ?_⟩, hf⟩
  by_cases h0 : (beginS S (thereC L s.data.toList)).2 = 0
  · rw [if_pos h0, h2 h0, delE_er]
  · rw [if_neg h0, h1 h0]
theorem dx_rename {w : World} {p : Nat} {S : St} {F : List Ent} {O : Nat → Prop} (s t : ByteArray) (h : DX w p S F O) (hE : ET w) (hs : s.size ≤ 1000) (ht : t.size ≤ 1000) (hc : 0 ≤ S.count ∧ S.count < 1000000000) (hl : S.halting = true → 0 ≤ S.left ∧ S.left < 9223372036854775808) :
    Calls Tryz.prog 49 #[.pointer (some ⟨p, 0, none⟩), .string s, .string t] w fun e w' => ∃ v' O', e = .returned v' ∧ ErrOut (Old w) w' v' (beginS S (renC F s.data.toList t.data.toList)).2 ∧
      DX w' p (beginS S (renC F s.data.toList t.data.toList)).1 (if (beginS S (renC F s.data.toList t.data.toList)).2 = 0 then putE (fl t.data.toList (oldData F s.data.toList) (oldSure F s.data.toList)) (delE s.data.toList F) else F) O' ∧ FrO O w w' ∧ (∀ k, O' k → O k ∨ w.heap.size ≤ k) := by
  obtain ⟨mb, L, hd, hO, rfl⟩ := h
  rw [renC_er, oldData_er, oldSure_er]
  refine (rename_any s t hd hO hE hs ht hc hl).mono ?_
  rintro e w' ⟨v', mb', L', rfl, he, hd', hf, h1, h2⟩
  refine ⟨v', _, rfl, he, ⟨mb', L', hd', fun k hk => ?_, ?_⟩, hf, fun k hk => hk.elim .inl (fun hh => .inr hh.1)⟩
  · have := hf.size
    rcases hk with hk | hk
    · have := hO k hk; omega
    · exact hk.2
  · by_cases h0 : (beginS S (renC L s.data.toList t.data.toList)).2 = 0
    · rw [if_pos h0]
      obtain ⟨e', hlk, rfl⟩ := h2 h0
      rw [putE_er, delE_er]
      unfold oldData oldSure
      rw [hlk]
      rfl
    · rw [if_neg h0, h1 h0]
end Go.Proofs.YtpminalccnhkjaaGreatDoor.Dk
/- strings.HasPrefix at the snapshot's name. -/
namespace Go.Proofs.YtpminalccnhkjaaGreatDoor
open Go.RowKit Go.Lib

/-- The snapshot's name. -/
def snN : ByteArray := ⟨#[115, 110, 97, 112]⟩
/-- Whether a name begins so. -/
def preN (s : ByteArray) : Bool := decide (4 ≤ s.size) && ((s.extract 0 4).toList == [115, 110, 97, 112])
set_option maxHeartbeats 1600000 in
set_option maxRecDepth 100000 in
theorem pre_any (s : ByteArray) (w : World) (hs : s.size ≤ 1000000) : Calls Tryz.prog 63 #[.string s, .string ⟨#[115, 110, 97, 112]⟩] w fun e w' => e = .returned (.bool (preN s)) ∧ w' = w := by
  by_cases h4 : 4 ≤ s.size
  · have e1 : preN s = ((s.extract 0 4).toList == [115, 110, 97, 112]) := by simp [preN, h4]
    have h4' : (4 : Int) ≤ (s.size : Int) := by omega
    rw [e1]
    go_enter Tryz.func63, Tryz.ntmps63
    go_wp2
    go_ret
    exact ⟨rfl, rfl⟩
  · have e1 : preN s = false := by simp [preN, h4]
    have h4' : ((4 : Int) ≤ (s.size : Int)) = False := by simp; omega
    rw [e1]
    go_enter Tryz.func63, Tryz.ntmps63
    go_wp2
    go_ret
    exact ⟨rfl, rfl⟩
theorem prefix_any (s : ByteArray) (w : World) (hs : s.size ≤ 1000000) : Calls Tryz.prog 47 #[.string s, .string ⟨#[115, 110, 97, 112]⟩] w fun e w' => e = .returned (.bool (preN s)) ∧ w' = w := by
  go_enter Tryz.func47, Tryz.ntmps47
  go_wp2_with (first | (go_at_call 63; refine (pre_any s _ hs).mono ?_; rintro e w1 ⟨rfl, rfl⟩))
  go_ret
  exact ⟨rfl, rfl⟩
end Go.Proofs.YtpminalccnhkjaaGreatDoor
/- Calls of a disk that goes on: where nothing is refused. -/
namespace Go.Proofs.YtpminalccnhkjaaGreatDoor.Dk
open Go.RowKit Go.Lib Go.Maps Go.WideMaps

/-- A disk that goes on, with so many calls behind it. -/
def Up1 (S : St) (n : Nat) : Prop := S.off = false ∧ S.halting = false ∧ 0 ≤ S.room ∧ S.room ≤ 4611686018427387904 ∧ 0 ≤ S.count ∧ S.count + n < 1000000000
def more (S : St) (k : Int) : St := { S with count := S.count + k }
theorem begin_ok {S : St} {n : Nat} (h : Up1 S n) : beginS S 0 = (more S 1, 0) := by
  obtain ⟨h1, h2, _⟩ := h
  unfold beginS more
  simp [h1, h2]
theorem Up1.more {S : St} {n : Nat} (h : Up1 S (n + 1)) : Up1 (more S 1) n := by
  obtain ⟨h1, h2, h3, h4, h5, h6⟩ := h
  refine ⟨h1, h2, h3, h4, ?_, ?_⟩ <;> show _ <;> simp only [Dk.more] <;> omega
theorem more_more (S : St) (a b : Int) : more (more S a) b = more S (a + b) := by simp only [more, Int.add_assoc]
theorem Up1.hc {S : St} {n : Nat} (h : Up1 S n) : 0 ≤ S.count ∧ S.count < 1000000000 := by obtain ⟨_, _, _, _, h5, h6⟩ := h; omega
theorem Up1.hl {S : St} {n : Nat} (h : Up1 S n) : S.halting = true → 0 ≤ S.left ∧ S.left < 9223372036854775808 := fun hh => by rw [h.2.1] at hh; cases hh
theorem err_none {O : Nat → Prop} {w : World} {v : Value} (h : ErrOut O w v 0) : v = .nilIface := h.elim (·.1) (fun hh => absurd rfl hh.1)

theorem ok_append {w : World} {p : Nat} {S : St} {F : List Ent} {O : Nat → Prop} {n : Nat} (s : ByteArray) (v : Value) (lb : List UInt8) (h : DX w p S F O) (hE : ET w) (hU : Up1 S n) (hs : s.size ≤ 1000) (hv : RBo w O v lb) (hok : appC S F s.data.toList lb.length = 0) :
    Calls Tryz.prog 8 #[.pointer (some ⟨p, 0, none⟩), .string s, v] w fun e w' => ∃ O', e = .returned .nilIface ∧ DX w' p (more S 1) (putE (fl s.data.toList (oldData F s.data.toList ++ lb) (oldSure F s.data.toList)) F) O' ∧ FrO O w w' ∧ (∀ k, O' k → O k ∨ w.heap.size ≤ k) := by
  refine (dx_append s v lb h hE hs ⟨hU.2.2.1, hU.2.2.2.1⟩ hU.hc hU.hl hv).mono ?_
  rw [hok, begin_ok hU]
  rintro e w' ⟨v', O', rfl, he, hd, hf, ho⟩
  rw [err_none he]
  exact ⟨O', rfl, hd, hf, ho⟩
theorem ok_sync {w : World} {p : Nat} {S : St} {F : List Ent} {O : Nat → Prop} {n : Nat} (s : ByteArray) (h : DX w p S F O) (hE : ET w) (hU : Up1 S n) (hs : s.size ≤ maxLen) (hok : thereC F s.data.toList = 0) :
    Calls Tryz.prog 9 #[.pointer (some ⟨p, 0, none⟩), .string s] w fun e w' => e = .returned .nilIface ∧ DX w' p (more S 1) (repl (fl s.data.toList (oldData F s.data.toList) (oldData F s.data.toList).length) F) O ∧ FrO O w w' := by
  refine (dx_sync s h hE hs hU.hc hU.hl).mono ?_
  rw [hok, begin_ok hU]
  rintro e w' ⟨v', rfl, he, hd, hf⟩
  rw [err_none he]
  exact ⟨rfl, hd, hf⟩
theorem ok_rename {w : World} {p : Nat} {S : St} {F : List Ent} {O : Nat → Prop} {n : Nat} (s t : ByteArray) (h : DX w p S F O) (hE : ET w) (hU : Up1 S n) (hs : s.size ≤ 1000) (ht : t.size ≤ 1000) (hok : renC F s.data.toList t.data.toList = 0) :
    Calls Tryz.prog 49 #[.pointer (some ⟨p, 0, none⟩), .string s, .string t] w fun e w' => ∃ O', e = .returned .nilIface ∧ DX w' p (more S 1) (putE (fl t.data.toList (oldData F s.data.toList) (oldSure F s.data.toList)) (delE s.data.toList F)) O' ∧ FrO O w w' ∧ (∀ k, O' k → O k ∨ w.heap.size ≤ k) := by
  refine (dx_rename s t h hE hs ht hU.hc hU.hl).mono ?_
  rw [hok, begin_ok hU]
  rintro e w' ⟨v', O', rfl, he, hd, hf, ho⟩
  rw [err_none he]
  exact ⟨O', rfl, hd, hf, ho⟩

theorem del_ins (e : Ent) : ∀ L : List Ent, delE e.name (insE e L) = delE e.name L
  | [] => by simp [insE, delE]
  | y :: r => by
    have ih := del_ins e r
    unfold insE
    split
    · simp [delE]
    · simp only [delE, List.filter_cons] at ih ⊢
      rw [ih]
theorem del_del (n : List UInt8) (L : List Ent) : delE n (delE n L) = delE n L := by simp [delE, List.filter_filter]
theorem del_put (e : Ent) (L : List Ent) : delE e.name (putE e L) = delE e.name L := by unfold putE; rw [del_ins, del_del]
theorem look_put {e : Ent} {L : List Ent} (h : Rising (putE e L)) : look (putE e L) e.name = some e := look_of_mem h (by unfold putE; exact mem_insE.2 (.inl rfl))
theorem look_repl {e : Ent} {n : List UInt8} (hn : e.name = n) : ∀ {L : List Ent} {x : Ent}, look L n = some x → look (repl e L) n = some e
  | [], x, h => by simp [look] at h
  | y :: r, x, h => by
    subst hn
    by_cases hy : y.name = e.name
    · simp [look, repl, hy]
    · have h2 : look r e.name = some x := by simpa [look, hy] using h
      have := look_repl rfl h2
      simpa [look, repl, hy] using this
end Go.Proofs.YtpminalccnhkjaaGreatDoor.Dk
/- Package snap's replace on a disk that goes on. -/
namespace Go.Proofs.YtpminalccnhkjaaGreatDoor
open Go.RowKit Go.Lib

/-- The newer snapshot's name. -/
def nwN : ByteArray := ⟨#[115, 110, 97, 112, 46, 110, 101, 119]⟩

set_option maxHeartbeats 1600000 in
set_option maxRecDepth 100000 in
theorem replace_ok {w : World} {p : Nat} {S : Dk.St} {F : List Dk.Ent} {O : Nat → Prop} {n : Nat} (v : Value) (lb : List UInt8) (h : Dk.DX w p S F O) (hE : Dk.ET w) (hEO : ¬ O 0) (hU : Dk.Up1 S (n + 3)) (hv : Dk.RBo w O v lb)
    (hno : Dk.look F nwN.data.toList = none) (hok : Dk.appC S F nwN.data.toList lb.length = 0) :
    Calls Tryz.prog 32 #[.pointer (some ⟨p, 0, none⟩), v] w fun e w' => ∃ O', e = .returned .nilIface ∧ Dk.DX w' p (Dk.more S 3) (Dk.putE (Dk.fl snN.data.toList lb lb.length) F) O' ∧ Dk.FrO O w w' ∧ (∀ k, O' k → O k ∨ w.heap.size ≤ k) := by
  have e0 : Dk.oldData F nwN.data.toList = [] := by unfold Dk.oldData; rw [hno]
  have e1 : Dk.oldSure F nwN.data.toList = 0 := by unfold Dk.oldSure; rw [hno]
  have HA := hide (Dk.ok_append nwN v lb h hE hU (by decide) hv hok)
  rw [e0, e1, List.nil_append] at HA
  have HEl := hide (show 0 < w.heap.size from hE.lt)
  obtain ⟨F1, hF1⟩ : ∃ x, x = Dk.putE (Dk.fl nwN.data.toList lb 0) F := ⟨_, rfl⟩
  rw [← hF1] at HA
  obtain ⟨F2, hF2⟩ : ∃ x, x = Dk.repl (Dk.fl nwN.data.toList lb lb.length) F1 := ⟨_, rfl⟩
  have HS : Hid (∀ w1 O1, Dk.DX w1 p (Dk.more S 1) F1 O1 → Dk.ET w1 → Calls Tryz.prog 9 #[.pointer (some ⟨p, 0, none⟩), .string nwN] w1 fun e w' => e = .returned .nilIface ∧ Dk.DX w' p (Dk.more S 2) F2 O1 ∧ Dk.FrO O1 w1 w') := by
    intro w1 O1 h1 hE1
    have hl : Dk.look F1 nwN.data.toList = some (Dk.fl nwN.data.toList lb 0) := by
      have := h1.rising
      rw [hF1] at this ⊢
      exact Dk.look_put this
    refine (Dk.ok_sync nwN h1 hE1 (hU.more (n := n + 2)) (by decide) (by unfold Dk.thereC; rw [hl])).mono ?_
    have e2 : Dk.oldData F1 nwN.data.toList = lb := by unfold Dk.oldData; rw [hl]; rfl
    rw [e2, ← hF2, Dk.more_more]
    exact fun e w' hh => hh
  have HR : Hid (∀ w1 O1, Dk.DX w1 p (Dk.more S 2) F2 O1 → Dk.ET w1 → Calls Tryz.prog 49 #[.pointer (some ⟨p, 0, none⟩), .string nwN, .string snN] w1 fun e w' => ∃ O', e = .returned .nilIface ∧ Dk.DX w' p (Dk.more S 3) (Dk.putE (Dk.fl snN.data.toList lb lb.length) F) O' ∧ Dk.FrO O1 w1 w' ∧ (∀ k, O' k → O1 k ∨ w1.heap.size ≤ k)) := by
    intro w1 O1 h1 hE1
    have hl : Dk.look F2 nwN.data.toList = some (Dk.fl nwN.data.toList lb lb.length) := by
      have hm : Dk.fl nwN.data.toList lb lb.length ∈ F2 := by
        rw [hF2, hF1]
        unfold Dk.repl Dk.putE
        exact List.mem_map.2 ⟨_, Dk.mem_insE.2 (.inl rfl), by simp [Dk.fl]⟩
      exact Dk.look_of_mem h1.rising hm
    refine (Dk.ok_rename nwN snN h1 hE1 (n := n + 1) (by have := (hU.more (n := n + 2)).more (n := n + 1); rwa [Dk.more_more] at this) (by decide) (by decide) (by unfold Dk.renC Dk.thereC; rw [hl, if_pos (by decide)])).mono ?_
    have e2 : Dk.oldData F2 nwN.data.toList = lb := by unfold Dk.oldData; rw [hl]; rfl
    have e3 : Dk.oldSure F2 nwN.data.toList = lb.length := by unfold Dk.oldSure; rw [hl]; rfl
    have e4 : Dk.delE nwN.data.toList F2 = F := by
      rw [hF2]
      refine (Dk.delE_repl (Dk.fl nwN.data.toList lb lb.length) F1).trans ?_
      rw [hF1]
      refine (Dk.del_put (Dk.fl nwN.data.toList lb 0) F).trans ?_
      exact Dk.delE_all (Dk.look_none hno)
    rw [e2, e3, e4, Dk.more_more]
    exact fun e w' hh => hh
  have HE := hide hE
  clear e0 e1 hF1 hF2 hno hok hv h hU hE
  unfold nwN at HA HS HR
  unfold snN at HR ⊢
  have HEO := hide hEO
  clear hEO
  go_enter Tryz.func32, Tryz.ntmps32
  go_wp2_with (first
    | (go_at_call 8; refine (unhide HA).mono ?_; rintro e w1 ⟨O1, rfl, d1, f1, o1⟩; clear HA; have HE1 := hide ((unhide HE).fr f1 (unhide HEO)))
    | (go_at_call 9; refine (unhide HS _ _ d1 (unhide HE1)).mono ?_; rintro e w2 ⟨rfl, d2, f2⟩; clear HS; have HN1 : Hid (¬ O1 0) := (fun hh => (o1 _ hh).elim (unhide HEO) (fun hx => absurd (unhide HEl) (Nat.not_lt.2 hx))); have HE2 := hide ((unhide HE1).fr f2 (unhide HN1)))
    | (go_at_call 49; refine (unhide HR _ _ d2 (unhide HE2)).mono ?_; rintro e w3 ⟨O3, rfl, d3, f3, o3⟩; clear HR))
  go_ret
  have f12 := f1.trans f2 (fun k hk ho => (o1 k ho).elim id (fun hx => absurd hk (Nat.not_lt.2 hx)))
  refine ⟨O3, rfl, d3, f12.trans f3 (fun k hk ho => (o1 k ho).elim id (fun hx => absurd hk (Nat.not_lt.2 hx))), fun k hk => ?_⟩
  rcases o3 k hk with hx | hx
  · exact o1 k hx
  · exact .inr (Nat.le_trans f12.size hx)
end Go.Proofs.YtpminalccnhkjaaGreatDoor
/- Package snap's sweep where no file is to be taken away. -/
namespace Go.Proofs.YtpminalccnhkjaaGreatDoor
open Go.RowKit Go.Lib

/-- A file that sweep leaves. -/
def keepN (there : Bool) (n : List UInt8) : Bool := !preN ⟨n.toArray⟩ || (there && n == [115, 110, 97, 112])

theorem names_cell {w : World} {B : Nat} {a : Option Addr} {cap n : Nat} {ns : List (List UInt8)} (h : w.ownsRow B 9 1 (.slice a n cap) n (ns.map encStr)) (k : Nat) (hk : k < ns.length) : ∃ g, a = some ⟨g, 0, none⟩ ∧ w.cell? ⟨g, k, none⟩ = some (encStr (ns.getD k [])) := by
  rcases h.2 with ⟨h1, h2⟩ | ⟨g, c, cur, h1, hB, hc, h3, h4, h5, h6⟩
  · have h7 := h.1
    simp at h7; omega
  · injection h1 with h8 h9 h10
    refine ⟨g, h8, ?_⟩
    rw [(Dk.cellB hc _).1, ← Array.getElem?_toList]
    have h7 : ns.length = n := by have := h.1; simpa using this
    have e1 : (cur.toList.take (n * 1))[k]? = cur.toList[k]? := List.getElem?_take_of_lt (by omega)
    rw [← e1, h6]
    simp [hk]

set_option maxHeartbeats 3200000 in
set_option maxRecDepth 100000 in
theorem sweep_keep {w : World} {p : Nat} {S : Dk.St} {F : List Dk.Ent} {O : Nat → Prop} (th : Bool) (h : Dk.DX w p S F O) (hk : ∀ e ∈ F, keepN th e.name = true) (hn : ∀ e ∈ F, e.name.length ≤ 1000) :
    Calls Tryz.prog 31 #[.pointer (some ⟨p, 0, none⟩), .bool th] w fun e w' => e = .returned .nilIface ∧ Below w.heap.size w w' := by
  have hf := h.few
  obtain ⟨ns, hns⟩ : ∃ ns, ns = F.map (·.name) := ⟨_, rfl⟩
  have hl : ns.length = F.length := by rw [hns]; simp
  have HK : Hid (∀ k, k < ns.length → keepN th (ns.getD k []) = true ∧ (ns.getD k []).length ≤ 1000) := by
    intro k hk2
    have e1 : ns.getD k [] = (F.getD k (Dk.fl [] [] 0)).name := by
      rw [hns]; simp [List.getD_eq_getElem?_getD, List.getElem?_map, List.getElem?_eq_getElem (show k < F.length by omega)]
    have e2 : F.getD k (Dk.fl [] [] 0) ∈ F := by
      rw [List.getD_eq_getElem?_getD, List.getElem?_eq_getElem (show k < F.length by omega)]; simp
    rw [e1]; exact ⟨hk _ e2, hn _ e2⟩
  have HL := hide (Dk.dx_list h)
  rw [← hns, ← hl] at HL
  rw [← hl] at hf
  clear h hk hn hns hl
  go_enter Tryz.func31, Tryz.ntmps31
  go_wp2_with (first
    | (go_at_call 33; refine (unhide HL).mono ?_; rintro e w1 ⟨v, rfl, hv, b1⟩; clear HL; obtain ⟨a, cap, rfl⟩ := Dk.own_sl hv; have HV := hide hv; have HB1 := hide b1; clear hv b1))
  go_loopw [11] (fun i wr => ∃ k : Nat, k ≤ ns.length ∧ i = .int .i64 k ∧ wr = w1) (fun i _ => ns.length - (intOf i).toNat)
  case atStart => exact ⟨0, by omega, rfl, rfl⟩
  case round =>
    obtain ⟨k, hk, rfl, rfl⟩ := hrel
    by_cases hlt : k < ns.length
    · obtain ⟨g, rfl, hc⟩ := names_cell (unhide HV) k hlt
      obtain ⟨hkp, hkl⟩ := unhide HK k hlt
      have hlt' : (k : Int) < (ns.length : Int) := by omega
      generalize ns.getD k [] = n at hc hkp hkl
      have HP := hide (fun W => prefix_any ⟨n.toArray⟩ W (by show n.toArray.size ≤ 1000000; simp; omega))
      unfold encStr at hc
      cases hp : preN ⟨n.toArray⟩
      · rw [hp] at HP
        clear HK HV hkp hp
        go_wp2_with (first | (go_at_call 47; refine (unhide HP _).mono ?_; rintro e w2 ⟨rfl, rfl⟩))
        go_roundw
        case rel => exact ⟨k + 1, by omega, by go_num, trivial⟩
        case measure => simp [intOf]; omega
      · unfold keepN at hkp
        rw [hp] at hkp HP
        simp only [Bool.not_true, Bool.false_or, Bool.and_eq_true, beq_iff_eq] at hkp
        obtain ⟨rfl, rfl⟩ := hkp
        clear HK HV hp
        go_wp2_with (first | (go_at_call 47; refine (unhide HP _).mono ?_; rintro e w2 ⟨rfl, rfl⟩))
        go_roundw
        case rel => exact ⟨k + 1, by omega, by go_num, trivial⟩
        case measure => simp [intOf]; omega
    · have hlt' : ¬ (k : Int) < (ns.length : Int) := by omega
      clear HK HV
      go_wp2
      go_ret
      exact ⟨rfl, unhide HB1⟩
end Go.Proofs.YtpminalccnhkjaaGreatDoor
