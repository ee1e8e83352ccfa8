/- A wal: SetHard, Drop, Cut: one record; calls that are refused. -/
import Derived.Test.YthphadbcebeoaaaGreatDoorWaBad2
import Derived.Test.YthphadbcebeoaaaGreatDoorJWaKnownWaKnown2
namespace Go.Proofs.YthphadbcebeoaaaGreatDoor
open Go.RowKit Go.Lib Go.Maps

/-- The place of a vote's record. -/
def plN (v : Int) : Nat := ((v + 1) % 18446744073709551616).toNat
theorem plN_lt (v : Int) : plN v < 18446744073709551616 := by unfold plN; omega
theorem plN_small {v : Int} (h1 : -1 ≤ v) (h2 : v ≤ 1000) : ((plN v : Nat) : Int) = v + 1 := by unfold plN; omega
theorem plN_big {v : Int} (h : v < -1 ∨ 1000 < v) (hv : -9223372036854775808 ≤ v ∧ v < 9223372036854775808) : 1001 < plN v := by unfold plN; omega
/-- A call of one record: do is what it does. -/
def OneOf (fn : FuncId) (args : Array Value) (p : Nat) (r : Rc) (w : World) : Prop :=
  ∀ P : Ending → World → Prop, (∀ e w', P e w' → ∃ ve, e = .returned ve) → (∀ w1 : World, Below w.heap.size w w1 → Calls Tryz.prog 32 #[.pointer (some ⟨p, 0, none⟩), .slice (some ⟨w1.heap.size, 0, none⟩) 1 1] (w1.alloc (.cells r.cells 84)) P) → Calls Tryz.prog fn args w P
section
variable {w : World} {p t : Nat} {v : Int}
set_option maxHeartbeats 6400000 in
set_option maxRecDepth 100000 in
theorem hardOf_any (w : World) (t : Nat) (v : Int) : Calls Tryz.prog 38 #[.agg #[.int .u64 (t : Int), .int .i64 v]] w fun e w' => e = .returned (.agg (rcH t (plN v)).cells) ∧ Below w.heap.size w w' := by
  have hw : IntKind.u64.wrap (IntKind.u64.wrap v + 1) = ((plN v : Nat) : Int) := by
    unfold plN
    simp [IntKind.wrap, IntKind.bits, IntKind.signed]
    omega
  unfold rcH Rc.cells
  dsimp only [zE]
  go_enter Tryz.func38, Tryz.ntmps38
  go_wp2
  refine bodyPost_ret (v := .agg #[.int .u8 1, .int .u64 (t : Int), .int .u64 ((plN v : Nat) : Int), .int .u64 0, .int .i64 0, .int .u64 0, .int .u64 0, .string ⟨#[]⟩]) ?_ rfl ?_
  · rw [results_cell1 rfl]
    go_simp
    try rfl
  exact ⟨rfl, ((Below.refl _ _).alloc (Nat.le_refl _) _).alloc (by simp) _⟩
set_option maxHeartbeats 6400000 in
set_option maxRecDepth 100000 in
theorem set_of : OneOf 16 #[.pointer (some ⟨p, 0, none⟩), .agg #[.int .u64 (t : Int), .int .i64 v]] p (rcH t (plN v)) w := by
  intro P hP hD
  have HD := hide hD
  have HP := hide hP
  have HH := hide (fun W : World => hardOf_any W t v)
  clear hD hP
  unfold rcH Rc.cells at HD HH
  dsimp only [zE] at HD HH
  go_enter Tryz.func16, Tryz.ntmps16
  have b0 := box_below w (.cells #[.int .u64 (t : Int), .int .i64 v] 47)
  have HB := hide b0
  clear b0
  go_wp2_with (first
    | (go_at_call 38; refine (unhide HH _).mono ?_; rintro e w1 ⟨rfl, b1⟩; have HD1 := hide (unhide HD w1 (below_trans0 (unhide HB) b1)); clear HH HD b1)
    | (go_at_call 32; refine (unhide HD1).mono ?_; intro e w1 h1; clear HD1; obtain ⟨ve, rfl⟩ := unhide HP _ _ h1; have H1 := hide h1; clear h1))
  exact unhide H1
set_option maxHeartbeats 3200000 in
set_option maxRecDepth 100000 in
theorem cut_of {f : Nat} : OneOf 10 #[.pointer (some ⟨p, 0, none⟩), .int .u64 (f : Int)] p (rcC f) w := by
  intro P hP hD
  have HD := hide (hD w (Below.refl _ _))
  have HP := hide hP
  clear hD hP
  unfold rcC Rc.cells at HD
  dsimp only [zE] at HD
  go_enter Tryz.func10, Tryz.ntmps10
  go_wp2_with (first
    | (go_at_call 32; refine (unhide HD).mono ?_; intro e w1 h1; clear HD; obtain ⟨ve, rfl⟩ := unhide HP _ _ h1; have H1 := hide h1; clear h1))
  exact unhide H1
set_option maxHeartbeats 3200000 in
set_option maxRecDepth 100000 in
theorem drop_of {i : Nat} : OneOf 17 #[.pointer (some ⟨p, 0, none⟩), .int .u64 (i : Int), .int .u64 (t : Int)] p (rcD i t) w := by
  intro P hP hD
  have HD := hide (hD w (Below.refl _ _))
  have HP := hide hP
  clear hD hP
  unfold rcD Rc.cells at HD
  dsimp only [zE] at HD
  go_enter Tryz.func17, Tryz.ntmps17
  go_wp2_with (first
    | (go_at_call 32; refine (unhide HD).mono ?_; intro e w1 h1; clear HD; obtain ⟨ve, rfl⟩ := unhide HP _ _ h1; have H1 := hide h1; clear h1))
  exact unhide H1
end
section
variable {w : World} {B p q sz n cn : Nat} {S : Dk.St} {R : Int} {a x : Fx} {s s2 : Sta} {v vl : Value} {D : Nat → Prop} {F : List Dk.Ent} {fn : FuncId} {args : Array Value} {r : Rc} {es : List GE}
theorem one_go (hF : OneOf fn args p r w) (h : WX w B p q S (FX a x) s v sz D) (hB : B ≤ w.heap.size) (hE : EV w B) (hs : s.ok) (hn : s.es.length ≤ 800000) (hr : r.ok) (hrun : takeS s r = .ok s2) (hS : OkS S R n) (hm : Roomy R a x r.bytes.length) (hz : sz + r.bytes.length ≤ 32768) (hf : ¬ Fails S) :
    Calls Tryz.prog fn args w fun e w' => WDone w B p q (nx S) (FX a (some (dB x ++ r.bytes, dS x))) s2 (sz + r.bytes.length) v D (WO p v D) e w' := by
  have e1 : recsB [r] = r.bytes := by simp [recsB]
  refine hF _ (fun e w' ⟨v', D', h1, _⟩ => ⟨_, h1⟩) (fun w1 hb => ?_)
  have hd := do_go (di_one (h.below hb) (Nat.le_trans hB hb.size) (hE.below (hb.mono hB)) hs hn r) (by rw [e1]; have := rc_len hr; omega) (fun r' h' => by rw [List.mem_singleton.1 h']; exact hr) (by simp only [runS]; rw [hrun]) hS (by rw [e1]; exact hm) (by rw [e1]; exact hz) hf
  rw [e1] at hd
  exact hd.mono fun e w' h' => (h'.pre (box_below w1 _)).pre hb
theorem one_cut (hF : OneOf fn args p r w) (h : WX w B p q S (FX a x) s v sz D) (hB : B ≤ w.heap.size) (hE : EV w B) (hs : s.ok) (hn : s.es.length ≤ 800000) (hr : r.ok) (hrun : takeS s r = .ok s2) (hS : OkS S R n) (hm : Roomy R a x r.bytes.length) (hz : sz + r.bytes.length ≤ 32768) (hf : Fails S) :
    Calls Tryz.prog fn args w fun e w' => WBad w B p q (dn S) (FX a x) s sz v D (WO p v D) 32 e w' := by
  have e1 : recsB [r] = r.bytes := by simp [recsB]
  refine hF _ (fun e w' ⟨v', D', h1, _⟩ => ⟨_, h1⟩) (fun w1 hb => ?_)
  have hd := do_cut (di_one (h.below hb) (Nat.le_trans hB hb.size) (hE.below (hb.mono hB)) hs hn r) (by rw [e1]; have := rc_len hr; omega) (fun r' h' => by rw [List.mem_singleton.1 h']; exact hr) (by simp only [runS]; rw [hrun]) hS (by rw [e1]; exact hm) (by rw [e1]; exact hz) hf
  exact hd.mono fun e w' h' => (h'.pre (box_below w1 _)).pre hb
theorem one_bad (hF : OneOf fn args p r w) (h : WX w B p q S F s v sz D) (hB : B ≤ w.heap.size) (hE : EV w B) (hs : s.ok) (hn : s.es.length ≤ 800000) (hr : r.ok) (hbad : takeS s r = .error cn) :
    Calls Tryz.prog fn args w fun e w' => WBad w B p q S F s sz v D (WO p v D) (cn : Int) e w' := by
  refine hF _ (fun e w' ⟨v', D', h1, _⟩ => ⟨_, h1⟩) (fun w1 hb => ?_)
  have hd := do_bad (jb := 0) (di_one (h.below hb) (Nat.le_trans hB hb.size) (hE.below (hb.mono hB)) hs hn r) (by simp [recsB]) (fun r' h' => by simp at h') rfl rfl (.inr ⟨hr, hbad⟩)
  exact hd.mono fun e w' h' => (h'.pre (box_below w1 _)).pre hb
/-- Append, refused: an entry that may not be. -/
theorem wapp_bad {jb : Nat} {gb : GE} (h : WX w B p q S F s v sz D) (hB : B ≤ w.heap.size) (hE : EV w B) (hs : s.ok) (hn : s.es.length + es.length ≤ 900000) (hl : RE w vl es) (hok : ∀ g ∈ es, g.ok) (hsz : ∀ g ∈ es, g.sql.size ≤ 2100) (hlen : (recsB ((es.take jb).map rcE)).length ≤ 1000000) (hgo : ∀ g ∈ es.take jb, g.may = true) (hgb : es[jb]? = some gb) (hbad : gb.may = false) :
    Calls Tryz.prog 11 #[.pointer (some ⟨p, 0, none⟩), vl] w fun e w' => WBad w B p q S F s sz v D (WO p v D) 20 e w' := by
  refine app_of (fun e w' hd => ?_) (by omega) hl (fun g hg => ?_) ?_
  · obtain ⟨v', D', h1, _⟩ := hd
    exact ⟨_, h1⟩
  · have hm2 := hsz g hg
    omega
  intro w2 hb hM
  refine (do_bad (rs := es.map rcE) (jb := jb) (rb := rcE gb) (cn := 20) ⟨h.below hb, Nat.le_trans hB hb.size, hE.below (hb.mono hB), hs, hM.rl _, fun b hi hw => ?_, by simpa using hn, .inl (fun r hr => ?_)⟩ (by rw [← List.map_take]; exact hlen) (fun r hr => ?_) (by rw [← List.map_take]; exact rcE_run _) (by rw [List.getElem?_map, hgb]; rfl) (.inl ⟨rfl, rfl, rfl, hok gb (List.mem_of_getElem? hgb), hbad, rfl⟩)).mono fun e w' hd => hd.pre hb
  · obtain ⟨_, _, _, e⟩ := hi
    cases e
    have := h.lt _ hw
    omega
  · obtain ⟨g, _, rfl⟩ := List.mem_map.1 hr
    exact .inl rfl
  · rw [← List.map_take] at hr
    obtain ⟨g, hg, rfl⟩ := List.mem_map.1 hr
    exact rcE_ok (hok g (List.mem_of_mem_take hg)) (hgo g hg)
end
section
variable {w w' : World} {B p q n ns : Nat} {R : Int} {a : Fx} {rs : List Rc} {pr : Bool} {s s2 : Sta} {O : Nat → Prop} {fn : FuncId} {args : Array Value} {r : Rc}
theorem wk_one (hF : OneOf fn args p r w) (h : WK w B p q R a rs ns pr s (n + 1) O) (hr : r.ok) (hrun : takeS s r = .ok s2) (hm : Roomy R a (some (recsB rs, 0)) r.bytes.length) (hz : (recsB rs).length + r.bytes.length ≤ 32768) (hn : s.es.length ≤ 800000) :
    Calls Tryz.prog fn args w fun e w' => KDone w B p q R a (rs ++ [r]) ns true s2 n O e w' := by
  obtain ⟨v, D, S, h1, h2, h3, h4, h5, h6, h7, h8, h9, h10, h11⟩ := h
  have hd := xF_data (ns := ns) h2
  have hsu := xF_sure (ns := ns) h2
  refine (one_go hF h1 h9 h10 h6 hn hr hrun h7 ⟨hm.1, ?_⟩ (by omega) h8.go).mono fun e w' hd' => ?_
  · rw [hd]; exact hm.2
  · rw [hd, hsu] at hd'
    refine kdone h1 h9 h10 h11 (by rw [runS_app h3]; simp only [runS]; rw [hrun]) (fun r hr' => ?_) (takeS_ok h6 hr (by omega) hrun) (by simp; omega) (h7.nx h8.go) h8.nx (fun k hk => hk) ?_
    · rcases List.mem_append.1 hr' with h' | h'
      · exact h4 r h'
      · rw [List.mem_singleton.1 h']; exact hr
    · have e1 : xF true (rs ++ [r]) ns = some (recsB rs ++ r.bytes, (recsB (rs.take ns)).length) := by unfold xF; rw [if_pos rfl, take_app h5, recsB_app]; simp [recsB]
      rw [e1, recsB_app]
      simpa [recsB] using hd'
end
section
variable {w0 w w' : World} {B p q n ns : Nat} {R : Int} {a : Fx} {rs : List Rc} {pr : Bool} {s s2 : Sta} {L : List (Value × List GE)} {fn : FuncId} {args : Array Value} {r : Rc} {vl : Value} {es : List GE}
theorem kb_one (hF : OneOf fn args p r w) (h : KB w0 w B p q R a rs ns pr s (n + 1) L) (hr : r.ok) (hrun : takeS s r = .ok s2) (hm : Roomy R a (some (recsB rs, 0)) r.bytes.length) (hz : (recsB rs).length + r.bytes.length ≤ 32768) (hn : s.es.length ≤ 800000) :
    Calls Tryz.prog fn args w fun e w' => e = .returned .nilIface ∧ KB w0 w' B p q R a (rs ++ [r]) ns true s2 n L := by
  obtain ⟨O, h1, h2, h3⟩ := h
  exact (wk_one hF h1 hr hrun hm hz hn).mono fun e w' hd => kb_step h1 h2 h3 hd
/-- The first entry that may not be. -/
theorem first_bad : ∀ {es : List GE}, ¬ (∀ g ∈ es, g.may = true) → ∃ jb gb, es[jb]? = some gb ∧ gb.may = false ∧ ∀ g ∈ es.take jb, g.may = true
  | [], h => absurd (fun g hg => by cases hg) h
  | x :: es, h => by
    cases hx : x.may with
    | false => exact ⟨0, x, rfl, hx, fun g hg => by simp at hg⟩
    | true =>
      obtain ⟨jb, gb, h1, h2, h3⟩ := first_bad (es := es) (fun hh => h (fun g hg => by
        rcases List.mem_cons.1 hg with rfl | hg
        · exact hx
        · exact hh g hg))
      refine ⟨jb + 1, gb, by simpa using h1, h2, fun g hg => ?_⟩
      rw [List.take_succ_cons] at hg
      rcases List.mem_cons.1 hg with rfl | hg
      · exact hx
      · exact h3 g hg
theorem kb_app_bad (h : KB w0 w B p q R a rs ns pr s n L) (hl : RE w vl es) (hok : ∀ g ∈ es, g.ok) (hsz : es.length ≤ 12 ∧ ∀ g ∈ es, g.sql.size ≤ 2100) (hn : s.es.length ≤ 800000) (hbad : ¬ ∀ g ∈ es, g.may = true) :
    Calls Tryz.prog 11 #[.pointer (some ⟨p, 0, none⟩), vl] w fun e w' => ∃ T b, e = .returned (.iface T (.pointer (some ⟨b, 0, none⟩))) ∧ Hid (ErrX w' (.iface T (.pointer (some ⟨b, 0, none⟩))) 20) ∧ Hid (Below B w0 w') ∧ Hid (ET w') := by
  obtain ⟨O, ⟨v, D, S, h1, h2, h3, h4, h5, h6, h7, h8, h9, h10, h11⟩, hb, _⟩ := h
  obtain ⟨jb, gb, k1, k2, k3⟩ := first_bad hbad
  have hlen : (recsB ((es.take jb).map rcE)).length ≤ 1000000 := by
    have hl2 : (es.take jb).length ≤ 12 := by rw [List.length_take]; omega
    have key : ∀ (l : List GE), (∀ g ∈ l, g.ok ∧ g.may = true ∧ g.sql.size ≤ 2100) → (recsB (l.map rcE)).length ≤ 2180 * l.length := by
      intro l
      induction l with
      | nil => intro _; simp [recsB]
      | cons g l ih =>
        intro hg
        obtain ⟨q1, q2, q3⟩ := hg g (List.mem_cons_self ..)
        have q4 := rc_small (rcE_ok q1 q2)
        have q5 := ih (fun g' hg' => hg g' (List.mem_cons_of_mem _ hg'))
        have q6 : (rcE g).ent.sql.size = g.sql.size := rfl
        rw [List.map_cons, recsB_cons, List.length_append, List.length_cons]
        omega
    have := key (es.take jb) (fun g hg => ⟨hok g (List.mem_of_mem_take hg), k3 g hg, hsz.2 g (List.mem_of_mem_take hg)⟩)
    omega
  refine (wapp_bad h1 h9 h10 h6 (by omega) hl hok hsz.2 hlen k3 k1 k2).mono ?_
  rintro e w' ⟨ve, D', rfl, he, q1, q2, q3⟩
  obtain ⟨T, b, rfl⟩ := he.form
  have hb2 := fro_below q2 h1.wo h9
  exact ⟨T, b, rfl, he, hb.trans hb2, (h10.below hb2).et⟩
end
end Go.Proofs.YthphadbcebeoaaaGreatDoor
/- The wal written anew: the shortest records of a state; the new file beside the old one. -/
namespace Go.Proofs.YthphadbcebeoaaaGreatDoor
open Go.RowKit Go.Lib Go.Maps

/-- The shortest file's records. -/
def stR (s : Sta) : List Rc := rcD s.base s.bt :: rcH s.term s.vote :: s.es.map rcE
theorem stR_run {s : Sta} (h : s.ok) : runS sta0 (stR s) = .ok s := by
  obtain ⟨h1, h2, h3, h4, h5, h6⟩ := h
  have e1 : takeS sta0 (rcD s.base s.bt) = .ok ⟨0, 0, s.base, s.bt, []⟩ := by
    have : takeS sta0 (rcD s.base s.bt) = if (s.base < 0 ∨ 4611686018427387904 < s.base) then .error 40 else .ok ⟨0, 0, s.base, s.bt, ([] : List GE).drop (s.base - 0)⟩ := rfl
    rw [this, if_neg (by omega)]
    simp
  have e2 : takeS ⟨0, 0, s.base, s.bt, []⟩ (rcH s.term s.vote) = .ok ⟨s.term, s.vote, s.base, s.bt, []⟩ := by
    have : takeS ⟨0, 0, s.base, s.bt, []⟩ (rcH s.term s.vote) = if 1001 < s.vote then .error 20 else .ok ⟨s.term, s.vote, s.base, s.bt, []⟩ := rfl
    rw [this, if_neg (by omega)]
  unfold stR
  simp only [runS]
  rw [e1]
  simp only
  rw [e2]
  simp only
  rw [rcE_run]
  simp
theorem stR_ok {s : Sta} (h : s.ok) : ∀ r ∈ stR s, r.ok := by
  obtain ⟨h1, h2, h3, h4, h5, h6⟩ := h
  intro r hr
  unfold stR at hr
  rcases List.mem_cons.1 hr with rfl | hr
  · exact rcD_ok (by omega) h4
  rcases List.mem_cons.1 hr with rfl | hr
  · exact rcH_ok h1 (by omega)
  obtain ⟨g, hg, rfl⟩ := List.mem_map.1 hr
  exact rcE_ok (h6 g hg).1 (h6 g hg).2
theorem stR_len {s : Sta} : (stR s).length = s.es.length + 2 := by simp [stR]
/-- Records with texts of at most m bytes. -/
theorem recs_upto {m : Nat} : ∀ {rs : List Rc}, (∀ r ∈ rs, r.ok ∧ r.ent.sql.size ≤ m) → (recsB rs).length ≤ (80 + m) * rs.length
  | [], _ => by simp [recsB]
  | r :: rs, h => by
    have h1 := h r (List.mem_cons_self ..)
    have h2 := rc_small h1.1
    have h3 := recs_upto (m := m) (rs := rs) (fun q hq => h q (List.mem_cons_of_mem _ hq))
    rw [recsB_cons, List.length_append, List.length_cons, Nat.mul_add, Nat.mul_one]
    omega
theorem recs_many : ∀ {rs : List Rc}, rs.length ≤ (recsB rs).length
  | [] => by simp [recsB]
  | r :: rs => by
    have h1 := r.len
    have h3 := recs_many (rs := rs)
    rw [recsB_cons, List.length_append, List.length_cons]
    omega
theorem stR_small {m : Nat} {s : Sta} (h : s.ok) (hm : ∀ g ∈ s.es, g.sql.size ≤ m) : (recsB (stR s)).length ≤ (80 + m) * (s.es.length + 2) := by
  rw [← stR_len (s := s)]
  refine recs_upto (fun r hr => ⟨stR_ok h r hr, ?_⟩)
  unfold stR at hr
  rcases List.mem_cons.1 hr with rfl | hr
  · exact Nat.zero_le _
  rcases List.mem_cons.1 hr with rfl | hr
  · exact Nat.zero_le _
  obtain ⟨g, hg, rfl⟩ := List.mem_map.1 hr
  exact hm g hg

def nwN : ByteArray := ⟨#[119, 97, 108, 46, 110, 101, 119]⟩
def nwE (x : List UInt8 × Nat) : Dk.Ent := Dk.fl nwN.data.toList x.1 x.2
/-- The files "wal", "wal.new". -/
def FN (x y : Fx) : List Dk.Ent := (x.map waE).toList ++ (y.map nwE).toList
theorem fn_fx (x : Fx) : FX none x = FN x none := by cases x <;> rfl
theorem look_nw (x y : Fx) : Dk.look (FN x y) nwN.data.toList = y.map nwE := by cases x <;> cases y <;> rfl
theorem put_nw (x : Fx) (z : List UInt8 × Nat) : Dk.putE (nwE z) (FN x none) = FN x (some z) := by cases x <;> rfl
theorem repl_nw (x : Fx) (y z : List UInt8 × Nat) : Dk.repl (nwE y) (FN x (some z)) = FN x (some y) := by cases x <;> rfl
theorem ren_nw (x : Fx) (y : List UInt8 × Nat) : Dk.putE (waE y) (Dk.delE nwN.data.toList (FN x (some y))) = FX none (some y) := by cases x <;> rfl
theorem used_fn (x : Fx) : Dk.usedL (FN x none) = (dB x).length := by cases x <;> simp [FN, Dk.usedL, waE, Dk.fl, dB]
theorem app_nw {S : Dk.St} {R : Int} {n m : Nat} {x : Fx} (hS : OkS S R n) (hm : Roomy R none x m) : Dk.appC S (FN x none) nwN.data.toList m = 0 := by
  obtain ⟨r1, r2⟩ := hm
  have h2 : Dk.anotherC (FN x none) nwN.data.toList = 0 := by cases x <;> rfl
  have h3 := used_fn x
  have e0 : (dB none).length = 0 := rfl
  unfold Dk.appC
  rw [look_nw]
  simp only [Option.map_none, h2, if_true]
  rw [if_pos]
  unfold Dk.fitsB
  rw [h3, hS.1]
  simp; omega
section
variable {w : World} {q : Nat} {S : Dk.St} {R : Int} {n : Nat} {x : Fx} {D : Nat → Prop}
theorem nw_app (v : Value) (lb : List UInt8) (h : Dk.DX w q S (FX none x) D) (hE : Dk.ET w) (hS : OkS S R n) (hm : Roomy R none x lb.length) (hv : Dk.RBo w D v lb) (hf : ¬ Fails S) :
    Calls Tryz.prog 25 #[.pointer (some ⟨q, 0, none⟩), .string nwN, v] w fun e w' => DoneP w q S (FN x (some (lb, 0))) D e w' := by
  rw [fn_fx] at h
  refine (Dk.dx_append nwN v lb h hE (by decide) (by rw [hS.1]; have := hm.1; have := hm.2; omega) hS.cnt hS.2.2.2 hv).mono ?_
  rw [app_nw hS hm, begin_go hf]
  rintro e w' ⟨v', O', rfl, he, hd, hfr, ho⟩
  obtain rfl := out_none he
  have ed : Dk.oldData (FN x none) nwN.data.toList = [] := by unfold Dk.oldData; rw [look_nw]; rfl
  have es : Dk.oldSure (FN x none) nwN.data.toList = 0 := by unfold Dk.oldSure; rw [look_nw]; rfl
  rw [if_pos rfl, ed, es, List.nil_append] at hd
  have e1 := put_nw x (lb, 0)
  unfold nwE at e1
  rw [e1] at hd
  exact ⟨O', rfl, hd, hfr, ho⟩
theorem nw_sync (y : List UInt8 × Nat) (h : Dk.DX w q S (FN x (some y)) D) (hE : Dk.ET w) (hS : OkS S R n) (hf : ¬ Fails S) :
    Calls Tryz.prog 26 #[.pointer (some ⟨q, 0, none⟩), .string nwN] w fun e w' => DoneP w q S (FN x (some (y.1, y.1.length))) D e w' := by
  refine (Dk.dx_sync nwN h hE (by decide) hS.cnt hS.2.2.2).mono ?_
  have et : Dk.thereC (FN x (some y)) nwN.data.toList = 0 := by unfold Dk.thereC; rw [look_nw]; rfl
  have ed : Dk.oldData (FN x (some y)) nwN.data.toList = y.1 := by unfold Dk.oldData; rw [look_nw]; rfl
  rw [et, begin_go hf]
  rintro e w' ⟨v', rfl, he, hd, hfr⟩
  obtain rfl := out_none he
  rw [if_pos rfl, ed] at hd
  have e1 := repl_nw x (y.1, y.1.length) y
  unfold nwE at e1
  simp only at e1
  rw [e1] at hd
  exact ⟨D, rfl, hd, hfr, fun k hk => .inl hk⟩
theorem nw_ren (y : List UInt8 × Nat) (h : Dk.DX w q S (FN x (some y)) D) (hE : Dk.ET w) (hS : OkS S R n) (hf : ¬ Fails S) :
    Calls Tryz.prog 102 #[.pointer (some ⟨q, 0, none⟩), .string nwN, .string waN] w fun e w' => DoneP w q S (FX none (some y)) D e w' := by
  refine (Dk.dx_rename nwN waN h hE (by decide) (by decide) hS.cnt hS.2.2.2).mono ?_
  have et : Dk.renC (FN x (some y)) nwN.data.toList waN.data.toList = 0 := by
    unfold Dk.renC Dk.thereC
    rw [look_nw, if_pos (by decide)]
    rfl
  have ed : Dk.oldData (FN x (some y)) nwN.data.toList = y.1 := by unfold Dk.oldData; rw [look_nw]; rfl
  have es : Dk.oldSure (FN x (some y)) nwN.data.toList = y.2 := by unfold Dk.oldSure; rw [look_nw]; rfl
  rw [et, begin_go hf]
  rintro e w' ⟨v', O', rfl, he, hd, hfr, ho⟩
  obtain rfl := out_none he
  rw [if_pos rfl, ed, es] at hd
  have e1 := ren_nw x y
  unfold waE at e1
  rw [e1] at hd
  exact ⟨O', rfl, hd, hfr, ho⟩
end
end Go.Proofs.YthphadbcebeoaaaGreatDoor
