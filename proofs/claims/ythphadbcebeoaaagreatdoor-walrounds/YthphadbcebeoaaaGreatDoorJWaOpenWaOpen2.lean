/- A wal: Open, where the disk is well. -/
import Derived.Test.YthphadbcebeoaaaGreatDoorWaMend
namespace Go.Proofs.YthphadbcebeoaaaGreatDoor
open Go.RowKit Go.Lib Go.Maps

def Hale (S : Dk.St) : Prop := S.off = false ∧ S.halting = false
theorem Hale.go {S : Dk.St} (h : Hale S) : ¬ Fails S := by
  rintro (h1 | ⟨h1, _⟩)
  · rw [h.1] at h1; cases h1
  · rw [h.2] at h1; cases h1
theorem Hale.nx {S : Dk.St} (h : Hale S) : Hale (nx S) := h
theorem eight {c : Array Value} (hs : c.size = 8) {a0 a1 a2 a3 a4 a5 a6 a7 : Value} (h0 : c[0]? = some a0) (h1 : c[1]? = some a1) (h2 : c[2]? = some a2) (h3 : c[3]? = some a3) (h4 : c[4]? = some a4) (h5 : c[5]? = some a5) (h6 : c[6]? = some a6) (h7 : c[7]? = some a7) : c = #[a0, a1, a2, a3, a4, a5, a6, a7] := by
  apply Array.ext
  · simp [hs]
  · intro i hi _
    rw [hs] at hi
    have key : ∀ {k : Nat} {u : Value} (hk : k < c.size), c[k]? = some u → c[k] = u := fun hk he => by rw [Array.getElem?_eq_getElem hk] at he; exact Option.some.inj he
    match i, hi with
    | 0, _ => exact key _ h0
    | 1, _ => exact key _ h1
    | 2, _ => exact key _ h2
    | 3, _ => exact key _ h3
    | 4, _ => exact key _ h4
    | 5, _ => exact key _ h5
    | 6, _ => exact key _ h6
    | 7, _ => exact key _ h7
section
variable {w w1 w3 : World} {B p q N n : Nat} {S : Dk.St} {R : Int} {a x : Fx} {F : List Dk.Ent} {s' : Sta} {D : Nat → Prop} {rs : List Rc} {t : List UInt8}
/-- A new wal's variable, replayed. -/
theorem rep_wx (hd : Dk.DX w1 q S F D) (hB : B ≤ w1.heap.size) (hbd : ∀ k, D k → B ≤ k) (h : ST1 (w1.alloc (.cells (wC q sta0 (.slice none 0 0) N) 79)) w3 w1.heap.size 1 79 (wC q sta0 (.slice none 0 0) N) (.slice none 0 0) s') :
    ∃ v', WX w3 B w1.heap.size q S F s' v' N D ∧ (∀ g, inB v' g → w1.heap.size ≤ g) ∧ Below w1.heap.size w1 w3 := by
  obtain ⟨⟨cur', v', q1, ⟨q2, q3⟩, q4⟩, h2, h3, h4⟩ := h
  have hno : ∀ g, ¬ inB (.slice none 0 0) g := fun g ⟨_, _, _, e⟩ => by cases e
  have hz : (w1.alloc (.cells (wC q sta0 (.slice none 0 0) N) 79)).heap.size = w1.heap.size + 1 := by simp
  have hv : ∀ g, inB v' g → w1.heap.size + 1 ≤ g := fun g hg => by
    rcases q4 g hg with h' | h'
    · exact absurd h' (hno g)
    · omega
  have hbel : Below w1.heap.size w1 w3 := by
    have hb := box_below w1 (.cells (wC q sta0 (.slice none 0 0) N) 79)
    exact ⟨h4.1.trans hb.os, h4.2.1.trans hb.tape, h4.2.2.trans hb.output, by omega, fun k hk => (h2 k (by omega) (by omega) (hno k)).trans (hb.block k hk)⟩
  have hc : cur' = wC q s' v' N := eight q2 (q3 0 (.inl (by omega))) q1.sb.c0 q1.sb.c1 q1.sb.c2 q1.sb.c3 q1.sb.c4 (q3 6 (.inr (by omega))) (q3 7 (.inr (by omega)))
  refine ⟨v', ⟨by rw [← hc]; exact q1.sb.blk, q1.el, hd.below hbel, q1.apart, fun hh => by have := hd.lt _ hh; omega, fun g hg hh => by have := hd.lt _ hh; have := hv g hg; omega, hB, fun g hg => by have := hv g hg; omega, hbd⟩, fun g hg => by have := hv g hg; omega, hbel⟩
/-- What Open tells. -/
def OpenP (w : World) (B q : Nat) (R : Int) (n : Nat) (a x' : Fx) (s' : Sta) (N : Nat) (D : Nat → Prop) (e : Ending) (w' : World) : Prop :=
  ∃ p v D' S', e = .returned (.tuple #[.pointer (some ⟨p, 0, none⟩), .nilIface]) ∧ WX w' B p q S' (FX a x') s' v N D' ∧ Dk.FrO D w w' ∧ (∀ k, D' k → D k ∨ w.heap.size ≤ k) ∧ w.heap.size ≤ p ∧ (∀ g, inB v g → w.heap.size ≤ g) ∧ OkS S' R n ∧ Hale S'
/-- Behind mend: Sync. -/
theorem open_end {w3 : World} {v : Value} {y : List UInt8 × Nat} {D3 : Nat → Prop} {S3 : Dk.St} (hB : B ≤ w.heap.size) (hE : EV w B) (hd0 : ∀ k, D k → B ≤ k) (h : WX w3 B p q S3 (FX a (some y)) s' v N D3) (hf : Dk.FrO D w w3) (ho : ∀ k, D3 k → D k ∨ w.heap.size ≤ k) (hp : w.heap.size ≤ p) (hv : ∀ g, inB v g → w.heap.size ≤ g) (hS : OkS S3 R (n + 1)) (hh : Hale S3) :
    Calls Tryz.prog 12 #[.pointer (some ⟨p, 0, none⟩)] w3 fun e w' => e = .returned .nilIface ∧ OpenP w B q R n a (some (y.1, y.1.length)) s' N D (.returned (.tuple #[.pointer (some ⟨p, 0, none⟩), .nilIface])) w' := by
  have hbl := fro_below hf hd0 hB
  refine (wsync_go y h (Nat.le_trans hB hf.size) (hE.below hbl) hS hh.go).mono ?_
  rintro e w' ⟨v', D', rfl, q1, q2, q3, q4⟩
  refine ⟨rfl, p, v', D', nx S3, rfl, q1, ?_, fun k hk => ?_, hp, fun g hg => ?_, hS.nx hh.go, hh.nx⟩
  · refine hf.trans q2 (fun k hk hpd => ?_)
    rcases hpd with rfl | hpd
    · omega
    · exact (ho k hpd).elim id (fun h' => by omega)
  · rcases q4 k hk with h' | h'
    · exact ho k h'
    · exact .inr (Nat.le_trans hf.size h')
  · rcases q3 g hg with h' | h'
    · exact hv g h'
    · exact Nat.le_trans hf.size h'
theorem open_end0 {w3 : World} {v : Value} {D3 : Nat → Prop} {S3 : Dk.St} (hB : B ≤ w.heap.size) (hE : EV w B) (hd0 : ∀ k, D k → B ≤ k) (h : WX w3 B p q S3 (FX a none) s' v N D3) (hf : Dk.FrO D w w3) (ho : ∀ k, D3 k → D k ∨ w.heap.size ≤ k) (hp : w.heap.size ≤ p) (hv : ∀ g, inB v g → w.heap.size ≤ g) (hS : OkS S3 R n) (hh : Hale S3) :
    Calls Tryz.prog 12 #[.pointer (some ⟨p, 0, none⟩)] w3 fun e w' => e = .returned .nilIface ∧ OpenP w B q R n a none s' N D (.returned (.tuple #[.pointer (some ⟨p, 0, none⟩), .nilIface])) w' := by
  have hbl := fro_below hf hd0 hB
  refine (wsync_none h (Nat.le_trans hB hf.size) (hE.below hbl) hS hh.1).mono ?_
  rintro e w' ⟨v', D', rfl, q1, q2, q3, q4⟩
  refine ⟨rfl, p, v', D', S3, rfl, q1, ?_, fun k hk => ?_, hp, fun g hg => ?_, hS, hh⟩
  · refine hf.trans q2 (fun k hk hpd => ?_)
    rcases hpd with rfl | hpd
    · omega
    · exact (ho k hpd).elim id (fun h' => by omega)
  · rcases q4 k hk with h' | h'
    · exact ho k h'
    · exact .inr (Nat.le_trans hf.size h')
  · rcases q3 g hg with h' | h'
    · exact hv g h'
    · exact Nat.le_trans hf.size h'
theorem sta0_ok : sta0.ok := ⟨by decide, by decide, by decide, by decide, by decide, fun g hg => by simp [sta0] at hg⟩
/-- A new wal is replayed. -/
theorem ri_new {vb : Value} (_hd : Dk.DX w1 q S F D) (hB : B ≤ w1.heap.size) (hE : EV w1 B) (hrs : ∀ r ∈ rs, r.ok) (hrun : runS sta0 rs = .ok s') (hfew : rs.length ≤ 900000) (hlen : (recsB rs ++ t).length ≤ 1000000) (ht : t = [] ∨ unfr t = ([], 0, 22)) (hb : RBp w1 w1.heap.size vb (recsB rs ++ t)) :
    ∃ ad cap, vb = .slice ad (recsB rs ++ t).length cap ∧ RI (w1.alloc (.cells (wC q sta0 (.slice none 0 0) (recsB rs ++ t).length) 79)) w1.heap.size 1 B 79 (wC q sta0 (.slice none 0 0) (recsB rs ++ t).length) sta0 (.slice none 0 0) rs t s' ad (recsB rs ++ t).length cap := by
  obtain ⟨ad, cap, rfl⟩ := rb_len hb
  have hbx := box_below w1 (.cells (wC q sta0 (.slice none 0 0) (recsB rs ++ t).length) 79)
  have hn : (w1.alloc (.cells (wC q sta0 (.slice none 0 0) (recsB rs ++ t).length) 79)).heap[w1.heap.size]? = some (.cells (wC q sta0 (.slice none 0 0) (recsB rs ++ t).length) 79 (0, 0)) := heap_alloc_new _ _
  have hno : ∀ g, ¬ inB (.slice none 0 0) g := fun g ⟨_, _, _, e⟩ => by cases e
  refine ⟨ad, cap, rfl, ⟨⟨hn, rfl, rfl, rfl, rfl, rfl⟩, EL.nil _, hno _⟩, sta0_ok, hrs, hrun, by simp [sta0]; omega, hlen, ht, ⟨rb_later hb hbx hbx.size, fun b hib => ⟨fun e => ?_, hno b⟩⟩, hE.below (hbx.mono hB), hB, fun g hg => absurd hg (hno g), by simp; omega⟩
  have := rb_lt hb hib
  omega
end
end Go.Proofs.YthphadbcebeoaaaGreatDoor
/- A wal: Open's walk. -/
namespace Go.Proofs.YthphadbcebeoaaaGreatDoor
open Go.RowKit Go.Lib Go.Maps

theorem read_wa (a : Fx) (y : List UInt8 × Nat) {S : Dk.St} (h : S.off = false) : Dk.readC S (FX a (some y)) waN.data.toList = 0 := by unfold Dk.readC; rw [if_neg (by simp [h]), look_wa]; rfl
theorem read_no (a : Fx) {S : Dk.St} (h : S.off = false) : Dk.readC S (FX a none) waN.data.toList = 30 := by unfold Dk.readC; rw [if_neg (by simp [h]), look_wa]; rfl
section
variable {w : World} {B q n : Nat} {S : Dk.St} {R : Int} {a : Fx} {s' : Sta} {D : Nat → Prop} {rs : List Rc} {t : List UInt8} {su : Nat}

set_option maxHeartbeats 12800000 in
set_option maxRecDepth 100000 in
theorem open_none (hd : Dk.DX w q S (FX a none) D) (hB : B ≤ w.heap.size) (hbd : ∀ k, D k → B ≤ k) (hE : EV w B) (hS : OkS S R (n + 2)) (hh : Hale S) :
    Calls Tryz.prog 9 #[.pointer (some ⟨q, 0, none⟩)] w fun e w' => OpenP w B q R n a none sta0 0 D e w' := by
  have HR : Hid (Calls Tryz.prog 27 #[.pointer (some ⟨q, 0, none⟩), .string waN] w fun e w1 => ∃ b, e = .returned (.tuple #[.slice none 0 0, Dk.evW b]) ∧ Hid (Calls Tryz.prog 29 #[Dk.evW b, .iface 75 (.int .i64 30)] w1 fun e w' => e = .returned (.bool true) ∧ w' = w1) ∧ Hid (Calls Tryz.prog 31 #[.pointer (some ⟨w1.heap.size, 1, none⟩), .slice none 0 0] (w1.alloc (.cells (wC q sta0 (.slice none 0 0) 0) 79)) fun e w2 => e = .returned .nilIface ∧ Hid (Calls Tryz.prog 30 #[.pointer (some ⟨w1.heap.size, 0, none⟩), .nilIface] w2 fun e w3 => e = .returned .nilIface ∧ Hid (Calls Tryz.prog 12 #[.pointer (some ⟨w1.heap.size, 0, none⟩)] w3 fun e w' => e = .returned .nilIface ∧ OpenP w B q R n a none sta0 0 D (.returned (.tuple #[.pointer (some ⟨w1.heap.size, 0, none⟩), .nilIface])) w')))) := by
    refine (Dk.dx_read waN hd hE.et (by decide)).mono ?_
    rw [read_no a hh.1]
    rintro e w1 ⟨hb, ⟨_, b, rfl, he⟩ | ⟨h0, _⟩⟩
    rotate_left
    · cases h0
    have hB1 := Nat.le_trans hB hb.size
    have hE1 := hE.below (hb.mono hB)
    have hd1 := hd.below hb
    obtain ⟨ad, cap, hvb, hri⟩ := ri_new (rs := []) (t := []) (s' := sta0) (vb := .slice none 0 0) hd1 hB1 hE1 (fun r hr => by cases hr) rfl (by simp) (by simp [recsB]) (.inl rfl) ⟨by simp [recsB], .inl ⟨rfl, rfl⟩⟩
    cases hvb
    refine ⟨b, rfl, (Dk.is_placed b 30 30 w1 he), (replay_any hri).mono ?_⟩
    rintro e w2 ⟨hst, ⟨_, rfl⟩ | ⟨hw, _⟩⟩
    rotate_left
    · simp at hw
    obtain ⟨v2, hw2, hv2, hb2⟩ := rep_wx hd1 hB1 hbd hst
    refine ⟨rfl, (mend_nil hw2).mono ?_⟩
    rintro e w3 ⟨rfl, hb3⟩
    have hfr : Dk.FrO D w w3 := Dk.FrO.of_below (below_trans0 (below_trans0 hb hb2) hb3)
    exact ⟨rfl, open_end0 hB hE hbd (hw2.below hb3) hfr (fun k hk => .inl hk) hb.size (fun g hg => Nat.le_trans hb.size (hv2 g hg)) (hS.less (by omega)) hh⟩
  clear hd hB hbd hE hS hh
  unfold waN at HR
  unfold wC sta0 at *
  dsimp only at *
  go_enter Tryz.func9, Tryz.ntmps9
  go_wp2_with (first
    | (go_at_call 27; refine (unhide HR).mono ?_; rintro e w1 ⟨b, rfl, HI, HP⟩; clear HR)
    | (go_at_call 29; refine (unhide HI).mono ?_; rintro e w2 ⟨rfl, rfl⟩; clear HI)
    | (go_at_call 31; refine (unhide HP).mono ?_; rintro e w2 ⟨rfl, HM⟩; clear HP)
    | (go_at_call 30; refine (unhide HM).mono ?_; rintro e w3 ⟨rfl, HY⟩; clear HM)
    | (go_at_call 12; refine (unhide HY).mono ?_; rintro e w5 ⟨rfl, h5⟩; have H5 := hide h5; clear h5 HY))
  go_ret2
  exact unhide H5

set_option maxHeartbeats 12800000 in
set_option maxRecDepth 100000 in
theorem open_torn (hd : Dk.DX w q S (FX a (some (recsB rs ++ t, su))) D) (hB : B ≤ w.heap.size) (hbd : ∀ k, D k → B ≤ k) (hE : EV w B) (hS : OkS S R (n + 2)) (hh : Hale S) (hrs : ∀ r ∈ rs, r.ok) (hrun : runS sta0 rs = .ok s') (hfew : rs.length ≤ 900000) (hlen : (recsB rs ++ t).length ≤ 1000000) (hne : t ≠ []) (htn : unfr t = ([], 0, 22)) :
    Calls Tryz.prog 9 #[.pointer (some ⟨q, 0, none⟩)] w fun e w' => OpenP w B q R n a (some (recsB rs, (recsB rs).length)) s' (recsB rs).length D e w' := by
  have hov : ∀ (w1 : World) (vb : Value), w1.ownsRow w.heap.size 5 1 vb (Dk.oldData (FX a (some (recsB rs ++ t, su))) waN.data.toList).length (byteCells (Dk.oldData (FX a (some (recsB rs ++ t, su))) waN.data.toList)) → RBp w1 w1.heap.size vb (recsB rs ++ t) := fun w1 vb ho => by
    rw [data_wa] at ho
    
    exact rb_own ho (by show (recsB rs ++ t).length ≤ 1000000000000; omega)
  have HR : Hid (Calls Tryz.prog 27 #[.pointer (some ⟨q, 0, none⟩), .string waN] w fun e w1 => ∃ ad cap, e = .returned (.tuple #[.slice ad (recsB rs ++ t).length cap, .nilIface]) ∧ Hid (Calls Tryz.prog 31 #[.pointer (some ⟨w1.heap.size, 1, none⟩), .slice ad (recsB rs ++ t).length cap] (w1.alloc (.cells (wC q sta0 (.slice none 0 0) (recsB rs ++ t).length) 79)) fun e w2 => ∃ b, e = .returned (ev b) ∧ Hid (Calls Tryz.prog 30 #[.pointer (some ⟨w1.heap.size, 0, none⟩), ev b] w2 fun e w3 => e = .returned .nilIface ∧ Hid (Calls Tryz.prog 12 #[.pointer (some ⟨w1.heap.size, 0, none⟩)] w3 fun e w' => e = .returned .nilIface ∧ OpenP w B q R n a (some (recsB rs, (recsB rs).length)) s' (recsB rs).length D (.returned (.tuple #[.pointer (some ⟨w1.heap.size, 0, none⟩), .nilIface])) w')))) := by
    refine (Dk.dx_read waN hd hE.et (by decide)).mono ?_
    rw [read_wa a _ hh.1]
    rintro e w1 ⟨hb, ⟨h0, _⟩ | ⟨_, _, vb, rfl, hvo⟩⟩
    · exact absurd rfl h0
    have hB1 := Nat.le_trans hB hb.size
    have hE1 := hE.below (hb.mono hB)
    have hd1 := hd.below hb
    obtain ⟨ad, cap, hvb, hri⟩ := ri_new (rs := rs) (t := t) (s' := s') hd1 hB1 hE1 hrs hrun hfew (by exact hlen) (.inr htn) (hov w1 vb hvo)
    subst hvb
    refine ⟨ad, cap, rfl, (replay_any hri).mono ?_⟩
    rintro e w2 ⟨hst, ⟨hw, _⟩ | ⟨_, b, b2, pl, rfl, hbz, e0, e1, e2⟩⟩
    · simp [hne] at hw
    obtain ⟨v2, hw2, hv2, hb2⟩ := rep_wx hd1 hB1 hbd hst
    have hz1 : (w1.alloc (.cells (wC q sta0 (.slice none 0 0) (recsB rs ++ t).length) 79)).heap.size = w1.heap.size + 1 := by simp
    have hfr2 : Dk.FrO D w w2 := Dk.FrO.of_below (below_trans0 hb hb2)
    refine ⟨b, rfl, (mend_torn (m := (recsB rs).length) (recsB rs ++ t, su) hw2 (Nat.le_trans hB1 hb2.size) (hE1.below (hb2.mono hB1)) hS hh.go (by simp) (by have := hlen; simp at this; omega) e0 e1 e2 (by omega)).mono ?_⟩
    rintro e w3 ⟨v3, D3, rfl, q1, q2, q3, q4⟩
    have e4 : (recsB rs ++ t).take (recsB rs).length = recsB rs := List.take_left
    dsimp only at q1
    rw [e4] at q1
    have hz2 : w.heap.size ≤ w2.heap.size := hfr2.size
    refine ⟨rfl, (open_end hB hE hbd q1 (hfr2.trans q2 (fun k hk hpd => ?_)) (fun k hk => (q4 k hk).imp id (fun h' => Nat.le_trans hz2 h')) hb.size (fun g hg => ?_) (hS.nx hh.go) hh.nx)⟩
    · rcases hpd with rfl | hpd
      · have := hb.size; omega
      · exact hpd
    · rcases q3 g hg with h' | h'
      · exact Nat.le_trans hb.size (hv2 g h')
      · exact Nat.le_trans hz2 h'
  have hNl : ((recsB rs ++ t).length : Int) ≤ 1000000 := by omega
  clear hd hB hbd hE hS hh hrs hrun hfew htn hne hov hlen
  generalize (recsB rs ++ t).length = NN at *
  unfold waN at HR
  unfold wC sta0 at *
  dsimp only at *
  go_enter Tryz.func9, Tryz.ntmps9
  go_wp2_with (first
    | (go_at_call 27; refine (unhide HR).mono ?_; rintro e w1 ⟨ad, cap, rfl, HP⟩; clear HR)
    | (go_at_call 31; refine (unhide HP).mono ?_; rintro e w2 ⟨b, rfl, HM⟩; clear HP)
    | (go_at_call 30; refine (unhide HM).mono ?_; rintro e w3 ⟨rfl, HY⟩; clear HM)
    | (go_at_call 12; refine (unhide HY).mono ?_; rintro e w5 ⟨rfl, h5⟩; have H5 := hide h5; clear h5 HY))
  go_ret2
  exact unhide H5

set_option maxHeartbeats 12800000 in
set_option maxRecDepth 100000 in
theorem open_whole0 (hd : Dk.DX w q S (FX a (some (recsB rs ++ [], su))) D) (hB : B ≤ w.heap.size) (hbd : ∀ k, D k → B ≤ k) (hE : EV w B) (hS : OkS S R (n + 2)) (hh : Hale S) (hrs : ∀ r ∈ rs, r.ok) (hrun : runS sta0 rs = .ok s') (hfew : rs.length ≤ 900000) (hlen : (recsB rs ++ []).length ≤ 1000000) :
    Calls Tryz.prog 9 #[.pointer (some ⟨q, 0, none⟩)] w fun e w' => OpenP w B q R n a (some (recsB rs, (recsB rs).length)) s' (recsB rs).length D e w' := by
  have hov : ∀ (w1 : World) (vb : Value), w1.ownsRow w.heap.size 5 1 vb (Dk.oldData (FX a (some (recsB rs ++ [], su))) waN.data.toList).length (byteCells (Dk.oldData (FX a (some (recsB rs ++ [], su))) waN.data.toList)) → RBp w1 w1.heap.size vb (recsB rs ++ []) := fun w1 vb ho => by
    rw [data_wa] at ho
    exact rb_own ho (by show (recsB rs ++ []).length ≤ 1000000000000; omega)
  have HR : Hid (Calls Tryz.prog 27 #[.pointer (some ⟨q, 0, none⟩), .string waN] w fun e w1 => ∃ ad cap, e = .returned (.tuple #[.slice ad (recsB rs ++ []).length cap, .nilIface]) ∧ Hid (Calls Tryz.prog 31 #[.pointer (some ⟨w1.heap.size, 1, none⟩), .slice ad (recsB rs ++ []).length cap] (w1.alloc (.cells (wC q sta0 (.slice none 0 0) (recsB rs ++ []).length) 79)) fun e w2 => e = .returned .nilIface ∧ Hid (Calls Tryz.prog 30 #[.pointer (some ⟨w1.heap.size, 0, none⟩), .nilIface] w2 fun e w3 => e = .returned .nilIface ∧ Hid (Calls Tryz.prog 12 #[.pointer (some ⟨w1.heap.size, 0, none⟩)] w3 fun e w' => e = .returned .nilIface ∧ OpenP w B q R n a (some (recsB rs, (recsB rs).length)) s' (recsB rs).length D (.returned (.tuple #[.pointer (some ⟨w1.heap.size, 0, none⟩), .nilIface])) w')))) := by
    refine (Dk.dx_read waN hd hE.et (by decide)).mono ?_
    rw [read_wa a _ hh.1]
    rintro e w1 ⟨hb, ⟨h0, _⟩ | ⟨_, _, vb, rfl, hvo⟩⟩
    · exact absurd rfl h0
    have hB1 := Nat.le_trans hB hb.size
    have hE1 := hE.below (hb.mono hB)
    have hd1 := hd.below hb
    obtain ⟨ad, cap, hvb, hri⟩ := ri_new (rs := rs) (t := []) (s' := s') hd1 hB1 hE1 hrs hrun hfew hlen (.inl rfl) (hov w1 vb hvo)
    subst hvb
    refine ⟨ad, cap, rfl, (replay_any hri).mono ?_⟩
    rintro e w2 ⟨hst, ⟨_, rfl⟩ | ⟨hw, _⟩⟩
    rotate_left
    · simp at hw
    obtain ⟨v2, hw2, hv2, hb2⟩ := rep_wx hd1 hB1 hbd hst
    refine ⟨rfl, (mend_nil hw2).mono ?_⟩
    rintro e w3 ⟨rfl, hb3⟩
    have hfr : Dk.FrO D w w3 := Dk.FrO.of_below (below_trans0 (below_trans0 hb hb2) hb3)
    have hw3 := hw2.below hb3
    rw [List.append_nil] at hw3
    exact ⟨rfl, open_end hB hE hbd hw3 hfr (fun k hk => .inl hk) hb.size (fun g hg => Nat.le_trans hb.size (hv2 g hg)) (hS.less (by omega)) hh⟩
  have hNl : ((recsB rs ++ []).length : Int) ≤ 1000000 := by omega
  clear hd hB hbd hE hS hh hrs hrun hfew hov hlen
  generalize (recsB rs ++ []).length = NN at *
  unfold waN at HR
  unfold wC sta0 at *
  dsimp only at *
  go_enter Tryz.func9, Tryz.ntmps9
  go_wp2_with (first
    | (go_at_call 27; refine (unhide HR).mono ?_; rintro e w1 ⟨ad, cap, rfl, HP⟩; clear HR)
    | (go_at_call 31; refine (unhide HP).mono ?_; rintro e w2 ⟨rfl, HM⟩; clear HP)
    | (go_at_call 30; refine (unhide HM).mono ?_; rintro e w3 ⟨rfl, HY⟩; clear HM)
    | (go_at_call 12; refine (unhide HY).mono ?_; rintro e w5 ⟨rfl, h5⟩; have H5 := hide h5; clear h5 HY))
  go_ret2
  exact unhide H5
theorem open_whole (hd : Dk.DX w q S (FX a (some (recsB rs, su))) D) (hB : B ≤ w.heap.size) (hbd : ∀ k, D k → B ≤ k) (hE : EV w B) (hS : OkS S R (n + 2)) (hh : Hale S) (hrs : ∀ r ∈ rs, r.ok) (hrun : runS sta0 rs = .ok s') (hfew : rs.length ≤ 900000) (hlen : (recsB rs).length ≤ 1000000) :
    Calls Tryz.prog 9 #[.pointer (some ⟨q, 0, none⟩)] w fun e w' => OpenP w B q R n a (some (recsB rs, (recsB rs).length)) s' (recsB rs).length D e w' :=
  open_whole0 (su := su) (by rw [List.append_nil]; exact hd) hB hbd hE hS hh hrs hrun hfew (by rw [List.append_nil]; exact hlen)
end
end Go.Proofs.YthphadbcebeoaaaGreatDoor
