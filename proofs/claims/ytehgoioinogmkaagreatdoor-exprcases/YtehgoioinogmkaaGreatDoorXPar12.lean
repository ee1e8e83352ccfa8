/- The document's parser: test. -/
import Derived.Test.YtehgoioinogmkaaGreatDoorXPar11
import Derived.Test.YtehgoioinogmkaaGreatDoorJXPar9XPar10XApp2
namespace Go.Proofs.YtehgoioinogmkaaGreatDoor
open Go.RowKit Go.Lib

/-- Behind the first sum: its variable at b3 besides. -/
structure TS (T : List Tk) (p bt c b2 b3 : Nat) (w wr : World) (S : PS) (M : List Value) (a : Ex) : Prop where
  rv : RVX T p bt c b2 w wr S
  va : VrX wr b3 M
  ex : ExM wr (fun b => b2 < b ∧ b ≠ b3) M a
  b3p : b3 ≠ p
  b3b : b2 < b3
theorem TS.moveR {T : List Tk} {p bt c b2 b3 : Nat} {w wr w' : World} {S S' : PS} {M : List Value} {a : Ex} (h : TS T p bt c b2 b3 w wr S M a) (hr : RVX T p bt c b2 w w' S') (hf : FrX p wr w') (hpl : p < b2) : TS T p bt c b2 b3 w w' S' M a :=
  ⟨hr, h.va.keep (hf.blk b3 (ltX h.va.1) h.b3p), h.ex.keep (fun b hq hl => hf.blk b hl (by have := hq.1; omega)) (fun _ _ q => q), h.b3p, h.b3b⟩
/-- What test tells when no sign stands behind its first sum. -/
def testN (T : List Tk) (sub3 sub7 : PS → Ex × PS) (n : Nat) (a : Ex) (S1 : PS) : Ex × PS :=
    if isS T 2 [73, 83] S1 then
      let S2 := nextS T S1
      (unE (if isS T 2 [78, 79, 84] S2 then 4 else 3) a, mustS T 2 [78, 85, 76, 76] (mayS T 2 [78, 79, 84] S2))
    else
      let nt := isS T 2 [78, 79, 84] S1
      let S2 := mayS T 2 [78, 79, 84] S1
      let r : Ex × PS :=
        if isS T 2 [73, 78] S2 then
          let l := exprsS T sub7 n .nil (openS T [40] (nextS T S2))
          ((⟨5, 0, 0, 0, [], [], [], 0, 0⟩, Fo.cons a.1 a.2 l.1), closeS T [41] l.2)
        else if isS T 2 [66, 69, 84, 87, 69, 69, 78] S2 then
          let lo := sub3 (nextS T S2)
          let hi := sub3 (mustS T 2 [65, 78, 68] lo.2)
          (binE 17 (binE 10 a lo.1) (binE 8 a hi.1), hi.2)
        else (a, if nt then failS T 1 S2 else S2)
      (if nt then unE 2 r.1 else r.1, r.2)
def testR (T : List Tk) (sub3 sub7 : PS → Ex × PS) (n : Nat) (a : Ex) (S1 : PS) : Option Nat → Ex × PS
  | some i => (binE (5 + i) a (sub3 (nextS T S1)).1, (sub3 (nextS T S1)).2)
  | none => testN T sub3 sub7 n a S1
theorem TS.move {T : List Tk} {p bt c b2 b3 : Nat} {w wr w' : World} {S S' : PS} {M : List Value} {a : Ex} (h : TS T p bt c b2 b3 w wr S M a) (hp : PX T w' p bt c S') (hf : FrX p wr w') (hpl : p < b2) : TS T p bt c b2 b3 w w' S' M a := h.moveR (h.rv.move hp hf hpl) hf hpl
theorem TS.below {T : List Tk} {p bt c b2 b3 : Nat} {w wr w' : World} {S : PS} {M : List Value} {a : Ex} (h : TS T p bt c b2 b3 w wr S M a) (hb : Below wr.heap.size wr w') : TS T p bt c b2 b3 w w' S M a := ⟨h.rv.below hb, h.va.below hb, h.ex.below hb, h.b3p, h.b3b⟩
theorem TS.drew {T : List Tk} {p bt c b2 b3 : Nat} {w wr : World} {S : PS} {M : List Value} {a : Ex} (h : TS T p bt c b2 b3 w wr S M a) : TS T p bt c b2 b3 w wr.drew S M a := h.below (Below.refl _ _).drew
theorem TS.set {T : List Tk} {p bt c b2 b3 : Nat} {w wr : World} {S : PS} {M M' : List Value} {a a' : Ex} (h : TS T p bt c b2 b3 w wr S M a) (hx : ExM wr (fun b => b2 < b ∧ b ≠ b3) M' a') (hbt : b3 ≠ bt) : TS T p bt c b2 b3 w (wr.setCells b3 0 M') S M' a' :=
  ⟨⟨h.rv.out.setCells (by have := h.b3b; omega) M', h.rv.px.setCells M' h.b3p hbt, h.rv.fr.setCells (by have := h.rv.b2p; have := h.b3b; omega) M', h.rv.b2p⟩, h.va.set hx.len, hx.setCells (fun q => q.2 rfl) M', h.b3p, h.b3b⟩
theorem ts_set {T : List Tk} {p bt c b2 b3 : Nat} {w wr : World} {S : PS} {M M' : List Value} {a' : Ex} (hr : RVX T p bt c b2 w wr S) (hv : VrX wr b3 M) (hp : b3 ≠ p) (hb : b2 < b3) (hx : ExM wr (fun b => b2 < b ∧ b ≠ b3) M' a') (hbt : b3 ≠ bt) : TS T p bt c b2 b3 w (wr.setCells b3 0 M') S M' a' :=
  ⟨⟨hr.out.setCells (by omega) M', hr.px.setCells M' hp hbt, hr.fr.setCells (by have := hr.b2p; omega) M', hr.b2p⟩, hv.set hx.len, hx.setCells (fun q => q.2 rfl) M', hp, hb⟩
/-- A row of the call's own grown. -/
theorem RVX.own {T : List Tk} {p bt c b2 : Nat} {w wr w' : World} {S : PS} (h : RVX T p bt c b2 w wr S) (hb : Below (b2 + 1) wr w') (hp : p < b2) (ht : bt < b2) : RVX T p bt c b2 w w' S :=
  ⟨h.out.keep (hb.block b2 (by omega)), ⟨(hb.block p (by omega)).trans h.px.blk, h.px.toks.keep (fun _ => hb.block bt (by omega)), h.px.ne, h.px.lt, h.px.dlo, h.px.dhi, h.px.err⟩, ⟨hb.os.trans h.fr.os, hb.tape.trans h.fr.tape, hb.output.trans h.fr.output, Nat.le_trans h.fr.size hb.size, fun k hk hkp => (hb.block k (by have := h.b2p; omega)).trans (h.fr.blk k hk hkp)⟩, h.b2p⟩
/-- The loop over the signs. -/
structure TGW (T : List Tk) (p bt c b2 b3 b9 : Nat) (w wr : World) (S : PS) (M : List Value) (a : Ex) (k : Nat) (A : Option Nat) : Prop where
  ts : TS T p bt c b2 b3 w wr S M a
  arr : wr.heap[b9]? = some (.cells #[.string ⟨#[61]⟩, .string ⟨#[60, 62]⟩, .string ⟨#[60]⟩, .string ⟨#[60, 61]⟩, .string ⟨#[62]⟩, .string ⟨#[62, 61]⟩] 317 (0, 0))
  b9p : b9 ≠ p
  eq : signI T S k (signsL.drop k) = A
theorem TGW.move {T : List Tk} {p bt c b2 b3 b9 : Nat} {w wr w' : World} {S : PS} {M : List Value} {a : Ex} {k : Nat} {A : Option Nat} (h : TGW T p bt c b2 b3 b9 w wr S M a k A) (hp : PX T w' p bt c S) (hf : FrX p wr w') (hpl : p < b2) : TGW T p bt c b2 b3 b9 w w' S M a k A :=
  ⟨h.ts.move hp hf hpl, hf.keep h.arr h.b9p, h.b9p, h.eq⟩
set_option linter.unusedSimpArgs false in
set_option linter.unusedVariables false in
set_option maxHeartbeats 25600000 in
set_option maxRecDepth 100000 in
theorem test_lv {T : List Tk} {p bt c : Nat} (hT : TG T) {sub3 sub7 : PS → Ex × PS} {B n : Nat} (hn : B ≤ n) (hB : B ≤ 3500) (h3 : LvC T p bt c 225 sub3 B) (h7 : 1 ≤ B → LvC T p bt c 157 sub7 (B - 1)) :
    LvC T p bt c 215 (testS T sub3 sub7 n) B := by
  intro w S hp hmu
  have hbtlt := hp.bt_lt
  have hplt := hp.lt_p
  have HV0 := hide (RVX.new hp)
  have HNE : Hid (w.heap.size ≠ bt ∧ w.heap.size ≠ p ∧ p < w.heap.size) := ⟨by omega, by omega, by omega⟩
  have HI := hide hp.lt
  have HBT := hide hbtlt
  have HMU := hide hmu
  clear hp hbtlt hplt hmu
  obtain ⟨PP, hPP⟩ : ∃ PP, PP = LvP T p bt c w S (testS T sub3 sub7 n S) := ⟨_, rfl⟩
  have HPP := hide hPP
  rw [← hPP]
  clear hPP
  go_enter Tryz.func215, Tryz.ntmps215
  go_upto_region 2 with (go_at_call 225; refine ((unhide HV0).call h3 (unhide HMU) (unhide HNE).2.2).mono ?_; rintro e w1 ⟨M, rfl, hx, hv, hf, hm⟩; have hlM := hx.len; have HX1 := hide hx; have HV1 := hide hv; have HM1 := hide hm; have hst1 := hv.out.storeC hx.len hx.one; have hsn1 := storeNew w1 hx.len hx.one; unfold zL at hsn1; clear hx hv hf hm)
  have hlo1 := ltX (unhide HV1).out.1
  obtain ⟨a, ha⟩ : ∃ a, a = (sub3 S).1 := ⟨_, rfl⟩
  obtain ⟨S1, hS1⟩ : ∃ S1, S1 = (sub3 S).2 := ⟨_, rfl⟩
  have HSA := hide (And.intro ha hS1)
  rw [← ha] at HX1
  rw [← hS1] at HV1 HM1
  clear ha hS1
  have HT2 : Hid (TS T p bt c w.heap.size w1.heap.size w (w1.alloc (.cells M.toArray 29)) S1 M a) := ⟨(unhide HV1).below (alX (Below.refl _ _) _), VrX.new w1 hlM, (unhide HX1).keep (fun b _ hl => (alX (Below.refl _ _) (.cells M.toArray 29)).block b hl) (fun b hl q => by
    have hz : (w.alloc (.cells zL.toArray 29)).heap.size = w.heap.size + 1 := by simp
    exact ⟨by omega, by omega⟩), by have := (unhide HNE).2.2; omega, hlo1⟩
  obtain ⟨w2, hw2⟩ : ∃ w2, w2 = w1.alloc (.cells M.toArray 29) := ⟨_, rfl⟩
  obtain ⟨b3, hb3⟩ : ∃ b3, b3 = w1.heap.size := ⟨_, rfl⟩
  rw [← hw2, ← hb3] at HT2
  rw [← hw2, ← hb3]
  clear hw2 hb3 hst1 hsn1 hlo1 HV1 HX1 HV0
  go_wp2_with fail
  have eb9 := heap_alloc_new w2 (.cells #[.string ⟨#[61]⟩, .string ⟨#[60, 62]⟩, .string ⟨#[60]⟩, .string ⟨#[60, 61]⟩, .string ⟨#[62]⟩, .string ⟨#[62, 61]⟩] 317)
  have HT3 := hide ((unhide HT2).below (alX (Below.refl _ _) (.cells #[.string ⟨#[61]⟩, .string ⟨#[60, 62]⟩, .string ⟨#[60]⟩, .string ⟨#[60, 61]⟩, .string ⟨#[62]⟩, .string ⟨#[62, 61]⟩] 317)))
  have hlo2 := ltX (unhide HT2).va.1
  have hlo8 := (unhide HT2).b3b
  obtain ⟨w3, hw3⟩ : ∃ w3, w3 = w2.alloc (.cells #[.string ⟨#[61]⟩, .string ⟨#[60, 62]⟩, .string ⟨#[60]⟩, .string ⟨#[60, 61]⟩, .string ⟨#[62]⟩, .string ⟨#[62, 61]⟩] 317) := ⟨_, rfl⟩
  rw [← hw3] at eb9 HT3
  rw [← hw3]
  obtain ⟨b9, hb9⟩ : ∃ b9, b9 = w2.heap.size := ⟨_, rfl⟩
  rw [← hb9] at eb9 hlo2
  rw [← hb9]
  obtain ⟨A, hA⟩ : ∃ A, A = signI T S1 0 signsL := ⟨_, rfl⟩
  have HEQ : Hid (testS T sub3 sub7 n S = testR T sub3 sub7 n a S1 A) := by
    show testS T sub3 sub7 n S = _
    rw [hA, (unhide HSA).1, (unhide HSA).2]
    unfold testS
    dsimp only
    generalize signI T (sub3 S).2 0 signsL = X
    cases X <;> rfl
  have HAG : Hid (TGW T p bt c w.heap.size b3 b9 w w3 S1 M a 0 A) := ⟨unhide HT3, eb9, by have := (unhide HNE).2.2; omega, hA.symm⟩
  clear hw3 hb9 eb9 HT2 HT3 hA HSA hlo2
  go_loopg [5] 6 (fun g s5 wr => ∃ k : Nat, g = 6 - k ∧ s5 = .int .i64 (k : Int) ∧ k ≤ 6 ∧ Hid (TGW T p bt c w.heap.size b3 b9 w wr S1 M a k A))
  case atStart => exact ⟨0, rfl, rfl, by omega, HAG⟩
  case round =>
    obtain ⟨k, rfl, rfl, hk4, HG⟩ := hrel
    clear HAG hlo8
    have hk0 : (0 : Int) ≤ (k : Int) := by omega
    by_cases hk : k < 6
    · have hkI : (k : Int) < 6 := by omega
      have h4 : k = 0 ∨ k = 1 ∨ k = 2 ∨ k = 3 ∨ k = 4 ∨ k = 5 := by omega
      obtain ⟨x, hx⟩ : ∃ x, x = signsL.getD k [] := ⟨_, rfl⟩
      have c9 : wr.cell? ⟨b9, k, none⟩ = some (.string ⟨x.toArray⟩) := by
        rw [cellX (unhide HG).arr, hx]
        rcases h4 with rfl | rfl | rfl | rfl | rfl | rfl <;> rfl
      have hA' : A = if isS T 5 x S1 then some k else signI T S1 (k + 1) (signsL.drop (k + 1)) := by
        have h := (unhide HG).eq
        rw [← h, hx]
        rcases h4 with rfl | rfl | rfl | rfl | rfl | rfl <;> rfl
      clear hx h4
      cases hw : isS T 5 x S1 with
      | false =>
        rw [if_neg (by rw [hw]; decide)] at hA'
        have HW := hide hw
        have HMA : Hid (mayS T 5 x S1 = S1) := by show mayS T 5 x S1 = S1; unfold mayS; rw [hw]; rfl
        have HA' := hide hA'.symm
        clear hw hA'
        skip
        as_aux_lemma =>
          go_wp2_with (first | (go_at_call 103; refine (maySign_any hT (unhide HG).ts.rv.px x).mono ?_; rw [unhide HW, unhide HMA]; rintro e w4 ⟨rfl, hp1, hf1⟩; have HG5 := hide ((unhide HG).move hp1 hf1 (unhide HNE).2.2); clear hp1 hf1))
          have HNX : Hid (TGW T p bt c w.heap.size b3 b9 w w4 S1 M a (k + 1) A) := ⟨(unhide HG5).ts, (unhide HG5).arr, (unhide HG5).b9p, unhide HA'⟩
          go_roundg (6 - (k + 1))
          case rel => exact ⟨k + 1, rfl, by rw [show ((k + 1 : Nat) : Int) = (k : Int) + 1 from rfl], by omega, HNX⟩
          case measure => omega
      | true =>
        rw [if_pos hw] at hA'
        have HW := hide hw
        have HMA : Hid (mayS T 5 x S1 = nextS T S1) := by show mayS T 5 x S1 = _; unfold mayS; rw [hw]; rfl
        have HEA : Hid (testS T sub3 sub7 n S = (binE (5 + (k : Int)) a (sub3 (nextS T S1)).1, (sub3 (nextS T S1)).2)) := by
          show testS T sub3 sub7 n S = _
          rw [unhide HEQ, hA']
          rfl
        have HMX := hide (muS_next hT hw (by decide) (unhide HG).ts.rv.px.lt)
        clear hw hA' HEQ
        skip
        as_aux_lemma =>
          go_upto_region 7 with ((go_at_call 103; refine (maySign_any hT (unhide HG).ts.rv.px x).mono ?_; rw [unhide HW, unhide HMA]; rintro e w4 ⟨rfl, hp1, hf1⟩; have HT4 := hide ((unhide HG).ts.move hp1 hf1 (unhide HNE).2.2); clear hp1 hf1))
          clear HW HMA c9 HG
          have hl := hlM
          have HT4D := hide ((unhide HT4).drew)
          have HVD : Hid (VrX w4.drew b3 M) := (unhide HT4).va
          refine wp_region_last 6 (fun w' => VrX w' b3 M) (by kernel_rfl) HVD.out (fun hHeld => ?_)
          refine last_to (i := 0) (d := 22) (v := (.int .i64 (k : Int))) rfl rfl (by kernel_rfl) (by kernel_rfl) (by kernel_rfl) (by kernel_rfl) (by decide) (fun _ _ _ h => h) (Or.inl ⟨by rfl, ?_⟩) hHeld ?_
          · (intro w' hSw; obtain hSw' := hSw; go_simp)
          simp only [Act.put, sA, sB, sC]
          refine last_to (i := 1) (d := 23) (v := (.int .i64 (5 + (k : Int)))) rfl rfl (by kernel_rfl) (by kernel_rfl) (by kernel_rfl) (by kernel_rfl) (by decide) (fun _ _ _ h => h) (Or.inl ⟨by rfl, ?_⟩) hHeld ?_
          · (intro w' hSw; obtain hSw' := hSw; go_simp; rw [IntKind.wrap_i64] <;> omega)
          simp only [Act.put, sA, sB, sC]
          refine last_to (i := 2) (d := 24) (v := .agg M.toArray) rfl rfl (by kernel_rfl) (by kernel_rfl) (by kernel_rfl) (by kernel_rfl) (by decide) (fun _ _ _ h => h) (yieldsIf_load_mid (by rfl) 29 (.tmp 3) rfl b3 0 rfl M _ (fun w hw => hw.range) Tryz.underlying29 rfl (by rw [hl]; exact sizeEx)) hHeld ?_
          simp only [Act.put, sA, sB, sC]
          refine last_to (i := 3) (d := 25) (v := (.pointer (some ⟨p, 0, none⟩))) rfl rfl (by kernel_rfl) (by kernel_rfl) (by kernel_rfl) (by kernel_rfl) (by decide) (fun _ _ _ h => h) (Or.inl ⟨by rfl, ?_⟩) hHeld ?_
          · (intro w' hSw; obtain hSw' := hSw; go_simp)
          simp only [Act.put, sA, sB, sC]
          refine last_one (i := 4) (by kernel_rfl) rfl (fun K hK => ?_)
          go_simp
          (go_at_call 225; refine ((unhide HT4D).rv.call h3 (by have h1 := unhide HMX; have h2 := unhide HMU; have h3 := unhide HM1; omega) (unhide HNE).2.2).mono ?_; rintro e w5 ⟨N, rfl, hx5, hv5, hf5, hm5⟩; have HT5 := hide ((unhide HT4D).moveR hv5 hf5 (unhide HNE).2.2); have HXN := hide (hx5.keep (Q' := fun b => w.heap.size < b ∧ b ≠ b3) (fun _ _ _ => rfl) (fun b _ q => by have h1 := ltX (unhide HT4D).va.1; have h2 := (unhide HT4D).b3b; exact ⟨by omega, by omega⟩)); have HM5 := hide hm5; clear hx5 hv5 hf5 hm5)
          go_wp2_with fail
          refine hK.out _ _ (fun _ => (unhide HT5).va) (fun hHeld2 => ?_)
          clear hK K hHeld
          have hHeld := hHeld2 (by decide)
          clear hHeld2
          try simp only [Act.put, sA, sB, sC]
          refine last_one (i := 5) (by kernel_rfl) rfl (fun K hK => ?_)
          go_simp
          (go_at_call 190; refine (binary_any (5 + (k : Int)) M N a _ (fun b => w.heap.size < b ∧ b ≠ b3) w5 (unhide HT5).ex (unhide HXN)).mono ?_; rintro e w6 ⟨M6, rfl, hx6, hb6⟩; have HV6 := hide ((unhide HT5).rv.below hb6); have HX6 := hide hx6; have HVA6 := hide ((unhide HT5).va.below hb6); have hst6 := (unhide HV6).out.storeC hx6.len hx6.one; have hl6 := hx6.len; clear hx6 hb6)
          go_wp2_with fail
          refine hK.out _ _ (fun _ => unhide HVA6) (fun hHeld2 => ?_)
          clear hK K hHeld
          have hHeld := hHeld2 (by decide)
          clear hHeld2
          try simp only [Act.put, sA, sB, sC]
          refine last_one (i := 6) (by kernel_rfl) rfl (fun K hK => ?_)
          have hz10 : M6.toArray.size = 10 := by simpa using (unhide HX6).len
          rw [if_pos (by rfl)]
          refine wp_store_mid 29 (.tmp 2) (.tmp 27) rfl w.heap.size 0 M6.toArray rfl rfl (by rw [hz10]; exact (unhide HV6).out.there) (by rw [hz10]; exact sizeEx) (all_oneCell_toArray (unhide HX6).one) ?_
          refine hK.out _ _ (fun h => absurd rfl h) (fun _ => ?_)
          clear hK K hHeld
          try simp only [Act.put, sA, sB, sC]
          refine last_done (by kernel_rfl) ?_ _
          go_wp2_with fail
          have HX : Hid (ExM w6 (fun b => w.heap.size < b) M6 (binE (5 + (k : Int)) a (sub3 (nextS T S1)).1)) := (unhide HX6).keep (fun _ _ _ => rfl) (fun b _ q => by
            have h1 := ltX (unhide HT5).rv.out.1
            rcases q with q | q
            · exact q.1
            · omega)
          have HMF : Hid (muS T (sub3 (nextS T S1)).2 ≤ muS T S) := by
            have h1 := unhide HM5
            have h2 := unhide HMX
            have h3 := unhide HM1
            show _ ≤ _
            omega
          obtain ⟨h1, h2⟩ := (unhide HV6).done (S0 := S) (unhide HX) (unhide HMF) (unhide HNE).1 (unhide HNE).2.1
          exact bodyPost_ret (h1.result rfl _ rfl) rfl (by rw [unhide HPP, unhide HEA]; exact h2)
    · have hkI : ¬ (k : Int) < 6 := by omega
      obtain rfl : k = 6 := by omega
      have HEN : Hid (testS T sub3 sub7 n S = testN T sub3 sub7 n a S1) := by
        show testS T sub3 sub7 n S = _
        rw [unhide HEQ, ← (unhide HG).eq]
        rfl
      have HTG := hide (unhide HG).ts
      clear HEQ HG
      skip
      cases hi : isS T 2 [73, 83] S1 with
      | true =>
        cases hj : isS T 2 [78, 79, 84] (nextS T S1) with
        | true =>
          skip
          as_aux_lemma =>
            have HT3 := HTG
            have HW1 := hide hi
            have MHW1 : Hid (mayS T 2 [73, 83] S1 = nextS T S1) := by show mayS T 2 [73, 83] S1 = _; unfold mayS; rw [hi]; rfl
            have HW2 := hide hj
            have MHW2 : Hid (mayS T 2 [78, 79, 84] (nextS T S1) = nextS T (nextS T S1)) := by show mayS T 2 [78, 79, 84] (nextS T S1) = _; unfold mayS; rw [hj]; rfl
            have HEQ : Hid (testS T sub3 sub7 n S = (unE 4 a, mustS T 2 [78, 85, 76, 76] (nextS T (nextS T S1)))) := by
              show testS T sub3 sub7 n S = _
              rw [unhide HEN]
              unfold testN
              rw [if_pos hi]
              dsimp only
              rw [unhide MHW2, hj]
              rfl
            have HMF : Hid (muS T (mustS T 2 [78, 85, 76, 76] (nextS T (nextS T S1))) ≤ muS T S) := by
              have h1 := muS_must T 2 [78, 85, 76, 76] (nextS T (nextS T S1))
              have h2 := muS_nle T S1
              have h3 := muS_nle T (nextS T S1)
              have h4 := unhide HM1
              show _ ≤ _
              omega
            clear hi hj HTG HEN
            go_upto_region 13 with (first | (go_at_call 150; refine (may_any hT (unhide HT3).rv.px [73, 83]).mono ?_; rw [unhide HW1]; rintro e w4 ⟨rfl, hp1, hf1⟩; rw [unhide MHW1] at hp1; have HT4 := hide ((unhide HT3).move hp1 hf1 (unhide HNE).2.2); clear hp1 hf1 HT3) | (go_at_call 150; refine (may_any hT (unhide HT4).rv.px [78, 79, 84]).mono ?_; rw [unhide HW2]; rintro e w5 ⟨rfl, hp1, hf1⟩; rw [unhide MHW2] at hp1; have HT5 := hide ((unhide HT4).move hp1 hf1 (unhide HNE).2.2); clear hp1 hf1 HT4) | (go_at_call 153; refine (must_any hT (unhide HT5).rv.px [78, 85, 76, 76]).mono ?_; rintro e w6 ⟨rfl, hp1, hf1⟩; have HT6 := hide ((unhide HT5).move hp1 hf1 (unhide HNE).2.2); clear hp1 hf1 HT5))
            refine wp_region_list ?_
            refine list_to (d := 34) (v := .int .i64 4) rfl rfl (by kernel_rfl) ?_
            refine wpList_load_mid rfl 29 (.tmp 3) rfl b3 0 rfl M _ (unhide HT6).va.range Tryz.underlying29 rfl (by rw [hlM]; exact sizeEx) ?_
            go_wp2_with (go_at_call 216; refine (unary_any 4 M a (fun b => w.heap.size < b ∧ b ≠ b3) w6 (unhide HT6).ex).mono ?_; rintro e w7 ⟨M7, rfl, hx, hb⟩; have hl7 := hx.len; have hv7 := (unhide HT6).rv.below hb; have hst7 := hv7.out.storeC hx.len hx.one; have HX7 := hide hx; have HV7 := hide hv7; clear hx hb hv7)
            have HX : Hid (ExM w7 (fun b => w.heap.size < b) M7 (unE 4 a)) := (unhide HX7).keep (fun _ _ _ => rfl) (fun b _ q => by
              have h1 := ltX (unhide HT6).rv.out.1
              rcases q with q | q
              · exact q.1
              · omega)
            obtain ⟨h1, h2⟩ := (unhide HV7).done (S0 := S) (unhide HX) (unhide HMF) (unhide HNE).1 (unhide HNE).2.1
            exact bodyPost_ret (h1.result rfl _ rfl) rfl (by rw [unhide HPP, unhide HEQ]; exact h2)
        | false =>
          skip
          as_aux_lemma =>
            have HT3 := HTG
            have HW1 := hide hi
            have MHW1 : Hid (mayS T 2 [73, 83] S1 = nextS T S1) := by show mayS T 2 [73, 83] S1 = _; unfold mayS; rw [hi]; rfl
            have HW2 := hide hj
            have MHW2 : Hid (mayS T 2 [78, 79, 84] (nextS T S1) = (nextS T S1)) := by show mayS T 2 [78, 79, 84] (nextS T S1) = _; unfold mayS; rw [hj]; rfl
            have HEQ : Hid (testS T sub3 sub7 n S = (unE 3 a, mustS T 2 [78, 85, 76, 76] (nextS T S1))) := by
              show testS T sub3 sub7 n S = _
              rw [unhide HEN]
              unfold testN
              rw [if_pos hi]
              dsimp only
              rw [unhide MHW2, hj]
              rfl
            have HMF : Hid (muS T (mustS T 2 [78, 85, 76, 76] (nextS T S1)) ≤ muS T S) := by
              have h1 := muS_must T 2 [78, 85, 76, 76] (nextS T S1)
              have h2 := muS_nle T S1
              have h3 := muS_nle T (nextS T S1)
              have h4 := unhide HM1
              show _ ≤ _
              omega
            clear hi hj HTG HEN
            go_upto_region 13 with (first | (go_at_call 150; refine (may_any hT (unhide HT3).rv.px [73, 83]).mono ?_; rw [unhide HW1]; rintro e w4 ⟨rfl, hp1, hf1⟩; rw [unhide MHW1] at hp1; have HT4 := hide ((unhide HT3).move hp1 hf1 (unhide HNE).2.2); clear hp1 hf1 HT3) | (go_at_call 150; refine (may_any hT (unhide HT4).rv.px [78, 79, 84]).mono ?_; rw [unhide HW2]; rintro e w5 ⟨rfl, hp1, hf1⟩; rw [unhide MHW2] at hp1; have HT5 := hide ((unhide HT4).move hp1 hf1 (unhide HNE).2.2); clear hp1 hf1 HT4) | (go_at_call 153; refine (must_any hT (unhide HT5).rv.px [78, 85, 76, 76]).mono ?_; rintro e w6 ⟨rfl, hp1, hf1⟩; have HT6 := hide ((unhide HT5).move hp1 hf1 (unhide HNE).2.2); clear hp1 hf1 HT5))
            refine wp_region_list ?_
            refine list_to (d := 34) (v := .int .i64 3) rfl rfl (by kernel_rfl) ?_
            refine wpList_load_mid rfl 29 (.tmp 3) rfl b3 0 rfl M _ (unhide HT6).va.range Tryz.underlying29 rfl (by rw [hlM]; exact sizeEx) ?_
            go_wp2_with (go_at_call 216; refine (unary_any 3 M a (fun b => w.heap.size < b ∧ b ≠ b3) w6 (unhide HT6).ex).mono ?_; rintro e w7 ⟨M7, rfl, hx, hb⟩; have hl7 := hx.len; have hv7 := (unhide HT6).rv.below hb; have hst7 := hv7.out.storeC hx.len hx.one; have HX7 := hide hx; have HV7 := hide hv7; clear hx hb hv7)
            have HX : Hid (ExM w7 (fun b => w.heap.size < b) M7 (unE 3 a)) := (unhide HX7).keep (fun _ _ _ => rfl) (fun b _ q => by
              have h1 := ltX (unhide HT6).rv.out.1
              rcases q with q | q
              · exact q.1
              · omega)
            obtain ⟨h1, h2⟩ := (unhide HV7).done (S0 := S) (unhide HX) (unhide HMF) (unhide HNE).1 (unhide HNE).2.1
            exact bodyPost_ret (h1.result rfl _ rfl) rfl (by rw [unhide HPP, unhide HEQ]; exact h2)
      | false =>
        cases hj : isS T 2 [78, 79, 84] S1 with
        | true =>
          cases hk3 : isS T 2 [73, 78] (nextS T S1) with
          | true =>
            skip
            as_aux_lemma =>
              have HT3 := HTG
              have HW1 := hide hi
              have MHW1 : Hid (mayS T 2 [73, 83] S1 = S1) := by show mayS T 2 [73, 83] S1 = _; unfold mayS; rw [hi]; rfl
              have HW2 := hide hj
              have MHW2 : Hid (mayS T 2 [78, 79, 84] S1 = nextS T S1) := by show mayS T 2 [78, 79, 84] S1 = _; unfold mayS; rw [hj]; rfl
              have HW3 := hide hk3
              have MHW3 : Hid (mayS T 2 [73, 78] (nextS T S1) = nextS T (nextS T S1)) := by show mayS T 2 [73, 78] (nextS T S1) = _; unfold mayS; rw [hk3]; rfl
              obtain ⟨S3, hS3⟩ : ∃ S3, S3 = openS T [40] (nextS T (nextS T S1)) := ⟨_, rfl⟩
              obtain ⟨r, hr⟩ : ∃ r, r = exprsS T sub7 n .nil S3 := ⟨_, rfl⟩
              obtain ⟨KL, hKL⟩ := exprsS_foE T sub7 n [] S3
              have HKL : Hid (r.1 = foE KL) := by rw [hr]; exact hKL
              have hm3 : muS T S3 + 1 ≤ muS T S := by
                have h1 := muS_next hT hk3 (by decide) (by unfold nextS; split; (rename_i h; exact h.2); exact (unhide HTG).rv.px.lt)
                have h2 := muS_open T [40] (nextS T (nextS T S1))
                have h3 := muS_nle T S1
                have h4 := unhide HM1
                rw [hS3]
                omega
              have hB1 : 1 ≤ B := by have := unhide HMU; omega
              have HXP : Hid (∀ W, PX T W p bt c S3 → Calls Tryz.prog 188 #[.pointer (some ⟨p, 0, none⟩)] W (RsP T p bt c W S3 r)) := fun W h => by rw [hr]; exact exprs_lv hT (B := B - 1) (by omega) (by omega) (h7 hB1) W S3 h (by have := unhide HMU; omega)
              have HEQ : Hid (testS T sub3 sub7 n S = (unE 2 ((⟨5, 0, 0, 0, [], [], [], 0, 0⟩, Fo.cons a.1 a.2 r.1) : Ex), closeS T [41] r.2)) := by
                show testS T sub3 sub7 n S = _
                rw [unhide HEN, hr, hS3]
                unfold testN
                rw [if_neg (by rw [hi]; decide)]
                dsimp only
                rw [unhide MHW2, hj, hk3]
                rfl
              have HS3 := hide hS3.symm
              have HM3 := hide hm3
              clear hi hj hk3 HTG HEN hKL hr hS3 hm3
              go_upto_region 17 with (first | (go_at_call 150; refine (may_any hT (unhide HT3).rv.px [73, 83]).mono ?_; rw [unhide HW1]; rintro e w4 ⟨rfl, hp1, hf1⟩; rw [unhide MHW1] at hp1; have HT4 := hide ((unhide HT3).move hp1 hf1 (unhide HNE).2.2); clear hp1 hf1 HT3) | (go_at_call 150; refine (may_any hT (unhide HT4).rv.px [78, 79, 84]).mono ?_; rw [unhide HW2]; rintro e w5 ⟨rfl, hp1, hf1⟩; rw [unhide MHW2] at hp1; have HT5 := hide ((unhide HT4).move hp1 hf1 (unhide HNE).2.2); clear hp1 hf1 HT4) | (go_at_call 150; refine (may_any hT (unhide HT5).rv.px [73, 78]).mono ?_; rw [unhide HW3]; rintro e w6 ⟨rfl, hp1, hf1⟩; rw [unhide MHW3] at hp1; have HT6 := hide ((unhide HT5).move hp1 hf1 (unhide HNE).2.2); clear hp1 hf1 HT5) | (go_at_call 184; refine (open_any hT (unhide HT6).rv.px [40]).mono ?_; rintro e w7 ⟨rfl, hp1, hf1⟩; rw [unhide HS3] at hp1; have HT7 := hide ((unhide HT6).move hp1 hf1 (unhide HNE).2.2); clear hp1 hf1 HT6))
              have HT8 := hide ((unhide HT7).drew)
              have hl := hlM
              refine wp_region_last 6 (fun w' => VrX w' b3 M) (by kernel_rfl) (unhide HT8).va (fun hHeld => ?_)
              obtain ⟨w8, hw8⟩ : ∃ w8, w8 = w7.drew := ⟨_, rfl⟩
              rw [← hw8] at HT8 hHeld
              rw [← hw8]
              clear hw8
              refine last_to (i := 0) (d := 44) (v := .agg M.toArray) rfl rfl (by kernel_rfl) (by kernel_rfl) (by kernel_rfl) (by kernel_rfl) (by decide) (fun _ _ _ h => h) (yieldsIf_load_mid (by rfl) 29 (.tmp 3) rfl b3 0 rfl M _ (fun w hw => hw.range) Tryz.underlying29 rfl (by rw [hl]; exact sizeEx)) hHeld ?_
              simp only [Act.put, sA, sB, sC]
              refine last_to (i := 2) (d := 46) (v := .pointer (some ⟨p, 0, none⟩)) rfl rfl (by kernel_rfl) (by kernel_rfl) (by kernel_rfl) (by kernel_rfl) (by decide) (fun _ _ _ h => h) (Or.inl ⟨by rfl, ?_⟩) hHeld ?_
              · (intro w' hSw; go_simp)
              simp only [Act.put, sA, sB, sC]
              refine last_two (i := 1) (j := 3) (by kernel_rfl) rfl rfl (fun K hK => ?_) (fun K hK => ?_)
              · skip
                go_simp
                go_wp2_with fail
                rw [fold10 hlM]
                have hlt8 := ltX (unhide HT8).rv.out.1
                have HO8 := hide (oe_one (base := w.heap.size + 1) (W := w8) (M := M) (E := a) (by omega) ((unhide HT8).ex.keep (fun _ _ _ => rfl) (fun b _ q => q.1)))
                have HA8 : Hid (ExM (w8.alloc (.cells M.toArray 29)) (fun b => w.heap.size < b ∧ b ≠ b3 ∧ b ≠ w8.heap.size) M a) := ((unhide HT8).ex.keep (fun _ _ _ => rfl) (fun b hl q => ⟨q.1, q.2, by omega⟩)).below (alX (Below.refl _ _) _)
                have HBO : Hid (w8.heap.size ≠ b3 ∧ w.heap.size < w8.heap.size) := ⟨by have := ltX (unhide HT8).va.1; omega, hlt8⟩
                have hz8 : (w8.alloc (.cells M.toArray 29)).heap.size = w8.heap.size + 1 := by simp
                have HT9 := hide ((unhide HT8).below (alX (Below.refl _ _) (.cells M.toArray 29)))
                obtain ⟨w9, hw9⟩ : ∃ w9, w9 = w8.alloc (.cells M.toArray 29) := ⟨_, rfl⟩
                rw [← hw9] at HO8 HA8 HT9 hz8
                rw [← hw9]
                obtain ⟨bO, hbO⟩ : ∃ bO, bO = w8.heap.size := ⟨_, rfl⟩
                rw [← hbO] at HO8 HA8 HBO hz8
                rw [← hbO]
                clear hw9 hbO
                refine hK.out _ _ (fun _ => (unhide HT9).va) (fun hHeld2 => ?_)
                clear hK K hHeld
                have hHeld := hHeld2 (by decide)
                clear hHeld2
                try simp only [Act.put, sA, sB, sC]
                refine last_one (i := 3) (by kernel_rfl) rfl (fun K hK => ?_)
                go_simp
                (go_at_call 188; refine (unhide HXP _ (unhide HT9).rv.px).mono ?_; rintro e w10 ⟨ad, m, k, rfl, hm4, hmc, hsl, hnil, hpx, hfr, hmu'⟩; clear hmc)
                go_wp2_with fail
                have HTq := hide ((unhide HT9).move hpx hfr (unhide HNE).2.2)
                have hpn := (unhide HNE).2.2
                have HOq := hide ((unhide HO8).keep (fun b h1 h2 => hfr.blk b h2 (by omega)))
                have HA := hide ((unhide HA8).keep (fun b q hl => hfr.blk b hl (by have := q.1; omega)) (fun _ _ h => h))
                have HSQ : Hid (SlAt w10 (fun b => w.heap.size < b ∧ b ≠ b3 ∧ b ≠ bO) (.slice ad m k) r.1) := hsl.keep (fun _ _ _ => rfl) (fun b _ q => ⟨by have := (unhide HBO).2; omega, by have := ltX (unhide HT9).va.1; omega, by omega⟩)
                refine hK.out _ _ (fun _ => (unhide HTq).va) (fun hHeld2 => ?_)
                clear hK K hHeld
                have hHeld := hHeld2 (by decide)
                clear hHeld2
                try simp only [Act.put, sA, sB, sC]
                have HMF : Hid (muS T (closeS T [41] r.2) ≤ muS T S) := by
                  have h1 := muS_close T [41] r.2
                  have h2 := unhide HM3
                  show _ ≤ _
                  omega
                clear hfr hpx hsl hlt8 hz8
                have HBP := hide (And.intro (unhide HTq).b3p (unhide HTq).b3b)
                have hqlt := ltX (unhide HTq).rv.out.1
                refine last_one (i := 4) (by kernel_rfl) rfl (fun K hK => ?_)
                rw [if_pos (by rfl)]
                rcases unhide HSQ with ⟨hf, c0, hv⟩ | ⟨bx, ox, kx, hv, hc1, hc2, hrow⟩
                · injection hv with e1 e2 e3
                  subst e1
                  have e4 : k = 0 := hnil rfl
                  subst e4
                  subst e3
                  subst e2
                  refine append_op_none (.tmp 45) (.tmp 47) rfl (unhide HOq) rfl rfl ?_
                  refine hK.out _ _ (fun _ => (unhide HTq).va) (fun hHeld2 => ?_)
                  clear hK K hHeld
                  have hHeld := hHeld2 (by decide)
                  clear hHeld2
                  try simp only [Act.put, sA, sB, sC]
                  have HSF : Hid (SlAt w10 (fun b => w.heap.size < b ∧ b ≠ b3) (.slice (some ⟨bO, 0, none⟩) 1 1) (Fo.cons a.1 a.2 r.1)) := by
                    rw [hf]
                    exact (unhide HOq).sliceQ (Q := (fun b => w.heap.size < b ∧ b ≠ b3)) (fun y hy => by rw [List.mem_singleton.1 hy]; exact (unhide HA).keep (fun _ _ _ => rfl) (fun b _ q => ⟨q.1, q.2.1⟩)) (fun g hg => by simp only [Value.ownBlock, Option.some.injEq] at hg; subst hg; exact ⟨(unhide HBO).2, (unhide HBO).1⟩)
                  obtain ⟨M5, hM5⟩ : ∃ M5 : List Value, M5 = ndC ⟨5, 0, 0, 0, [], [], [], 0, 0⟩ (.slice (some ⟨bO, 0, none⟩) 1 1) := ⟨_, rfl⟩
                  have eM5 : M5.toArray = #[.int .i64 5, .int .i64 0, .int .i64 0, .int .i64 0, .string ⟨#[]⟩, .string ⟨#[]⟩, .string ⟨#[]⟩, .slice (some ⟨bO, 0, none⟩) 1 1, .int .i64 0, .int .i64 0] := by rw [hM5]; rfl
                  have hlM5 : M5.length = 10 := by rw [hM5]; rfl
                  refine last_to (i := 5) (d := 49) (v := .agg M5.toArray) rfl rfl (by kernel_rfl) (by kernel_rfl) (by kernel_rfl) (by kernel_rfl) (by decide) (fun _ _ _ h => h) (Or.inl ⟨by rfl, ?_⟩) hHeld ?_
                  · (intro w' hSw; rw [eM5]; go_simp)
                  simp only [Act.put, sA, sB, sC]
                  have HX5 : Hid (ExM w10 (fun b => w.heap.size < b ∧ b ≠ b3) M5 ((⟨5, 0, 0, 0, [], [], [], 0, 0⟩, Fo.cons a.1 a.2 r.1) : Ex)) := ⟨_, hM5, unhide HSF⟩
                  have HRV5 := hide (unhide HTq).rv
                  have HVA5 := hide (unhide HTq).va
                  refine last_one (i := 6) (by kernel_rfl) rfl (fun K hK => ?_)
                  have hz10 : M5.toArray.size = 10 := by simpa using (unhide HX5).len
                  rw [if_pos (by rfl)]
                  refine wp_store_mid 29 (.tmp 3) (.tmp 49) rfl b3 0 M5.toArray rfl rfl (by rw [hz10]; exact (unhide HVA5).there) (by rw [hz10]; exact sizeEx) (all_oneCell_toArray (unhide HX5).one) ?_
                  refine hK.out _ _ (fun h => absurd rfl h) (fun _ => ?_)
                  clear hK K hHeld
                  try simp only [Act.put, sA, sB, sC]
                  refine last_done (by kernel_rfl) ?_ _
                  have HT17 := hide (ts_set (unhide HRV5) (unhide HVA5) (unhide HBP).1 (unhide HBP).2 (unhide HX5) (by have h1 := (unhide HBP).2; have h2 := unhide HBT; omega))
                  clear hM5 eM5
                  obtain ⟨w17, hw17⟩ : ∃ w17, w17 = w10.setCells b3 0 M5 := ⟨_, rfl⟩
                  rw [← hw17] at HT17
                  rw [← hw17]
                  clear hw17
                  go_upto_region 27 with (go_at_call 186; refine (close_any hT (unhide HT17).rv.px [41]).mono ?_; rintro e w18 ⟨rfl, hp1, hf1⟩; have HT18 := hide ((unhide HT17).move hp1 hf1 (unhide HNE).2.2); clear hp1 hf1 HT17)
                  refine wp_region_list ?_
                  refine wpList_load_mid rfl 29 (.tmp 3) rfl b3 0 rfl M5 _ (unhide HT18).va.range Tryz.underlying29 rfl (by rw [hlM5]; exact sizeEx) ?_
                  go_wp2_with (go_at_call 216; refine (unary_any 2 M5 _ (fun b => w.heap.size < b ∧ b ≠ b3) w18 (unhide HT18).ex).mono ?_; rintro e w19 ⟨M7, rfl, hx, hb⟩; have hl7 := hx.len; have hv7 := (unhide HT18).rv.below hb; have hst7 := hv7.out.storeC hx.len hx.one; have HX7 := hide hx; have HV19 := hide hv7; clear hx hb hv7)
                  have HX : Hid (ExM w19 (fun b => w.heap.size < b) M7 (unE 2 ((⟨5, 0, 0, 0, [], [], [], 0, 0⟩, Fo.cons a.1 a.2 r.1) : Ex))) := (unhide HX7).keep (fun _ _ _ => rfl) (fun b _ q => by
                    have h1 := ltX (unhide HT18).rv.out.1
                    rcases q with q | q
                    · exact q.1
                    · omega)
                  obtain ⟨h1, h2⟩ := (unhide HV19).done (S0 := S) (unhide HX) (unhide HMF) (unhide HNE).1 (unhide HNE).2.1
                  exact bodyPost_ret (h1.result rfl _ rfl) rfl (by rw [unhide HPP, unhide HEQ]; exact h2)
                · injection hv with e1 e2 e3
                  subst e1
                  subst e3
                  obtain ⟨Xs, hXs, hxx, hxr⟩ := row_list KL (by rw [← unhide HKL]; exact hrow)
                  have hlen : cnt r.1 = Xs.length := by rw [unhide HKL, cnt_foE, ← hXs, List.length_map]
                  rw [hlen] at e2
                  subst e2
                  refine append_op (.tmp 45) (.tmp 47) rfl (unhide HOq) (by omega) rfl Xs (fun y hy => (hxx y hy).keep (fun _ _ _ => rfl) (fun b _ q => ⟨by have := q.1; omega, by intro e; simp only [Value.ownBlock, Option.some.injEq] at e; exact q.2.2 e.symm⟩)) bx ox _ rfl hxr (by decide) (by omega) ?_
                  intro ad5 k5 w12 ho5 hb5 hg5 hn5
                  refine hK.out _ _ (fun _ => (unhide HTq).va.keep (hg5 b3 (ltX (unhide HTq).va.1) (by intro e; simp only [Value.ownBlock, Option.some.injEq] at e; exact (unhide HBO).1 e))) (fun hHeld2 => ?_)
                  clear hK K hHeld
                  have hHeld := hHeld2 (by decide)
                  clear hHeld2
                  try simp only [Act.put, sA, sB, sC]
                  have hkk : ∀ (N : List Value) (E : Ex), ExM w10 (fun b => w.heap.size < b ∧ b ≠ b3 ∧ b ≠ bO) N E → ExM w12 (fun b => w.heap.size < b ∧ b ≠ b3) N E := fun N E h => h.keep (fun b q hl => hg5 b hl (by intro e; simp only [Value.ownBlock, Option.some.injEq] at e; exact q.2.2 e.symm)) (fun b _ q => ⟨q.1, q.2.1⟩)
                  have HSF : Hid (SlAt w12 (fun b => w.heap.size < b ∧ b ≠ b3) (.slice ad5 (1 + Xs.length) k5) (Fo.cons a.1 a.2 r.1)) := by
                    have h := ho5.sliceQ (Q := (fun b => w.heap.size < b ∧ b ≠ b3)) (fun y hy => by
                      rcases List.mem_append.1 hy with hy | hy
                      · rw [List.mem_singleton.1 hy]; exact hkk _ _ (unhide HA)
                      · exact hkk _ _ (hxx y hy)) (fun g hg => by
                      rcases hn5 with e | e
                      · rw [hg] at e; simp only [Value.ownBlock, Option.some.injEq] at e; subst e; exact ⟨(unhide HBO).2, (unhide HBO).1⟩
                      · rw [hg] at e; simp only [Option.some.injEq] at e; subst e; exact ⟨by omega, by have := ltX (unhide HTq).va.1; omega⟩)
                    rw [unhide HKL, ← hXs, ← toFo_foE]
                    exact h
                  have hrv5 := (unhide HTq).rv.own hb5 (unhide HNE).2.2 (unhide HBT)
                  have hva5 := (unhide HTq).va.keep (hg5 b3 (ltX (unhide HTq).va.1) (by intro e; simp only [Value.ownBlock, Option.some.injEq] at e; exact (unhide HBO).1 e))
                  clear hkk hg5 hn5 ho5 hb5
                  obtain ⟨M5, hM5⟩ : ∃ M5 : List Value, M5 = ndC ⟨5, 0, 0, 0, [], [], [], 0, 0⟩ (.slice ad5 (1 + Xs.length) k5) := ⟨_, rfl⟩
                  have eM5 : M5.toArray = #[.int .i64 5, .int .i64 0, .int .i64 0, .int .i64 0, .string ⟨#[]⟩, .string ⟨#[]⟩, .string ⟨#[]⟩, .slice ad5 (1 + Xs.length) k5, .int .i64 0, .int .i64 0] := by rw [hM5]; rfl
                  have hlM5 : M5.length = 10 := by rw [hM5]; rfl
                  refine last_to (i := 5) (d := 49) (v := .agg M5.toArray) rfl rfl (by kernel_rfl) (by kernel_rfl) (by kernel_rfl) (by kernel_rfl) (by decide) (fun _ _ _ h => h) (Or.inl ⟨by rfl, ?_⟩) hHeld ?_
                  · (intro w' hSw; rw [eM5]; go_simp)
                  simp only [Act.put, sA, sB, sC]
                  have HX5 : Hid (ExM w12 (fun b => w.heap.size < b ∧ b ≠ b3) M5 ((⟨5, 0, 0, 0, [], [], [], 0, 0⟩, Fo.cons a.1 a.2 r.1) : Ex)) := ⟨_, hM5, unhide HSF⟩
                  have HRV5 := hide hrv5
                  have HVA5 := hide hva5
                  refine last_one (i := 6) (by kernel_rfl) rfl (fun K hK => ?_)
                  have hz10 : M5.toArray.size = 10 := by simpa using (unhide HX5).len
                  rw [if_pos (by rfl)]
                  refine wp_store_mid 29 (.tmp 3) (.tmp 49) rfl b3 0 M5.toArray rfl rfl (by rw [hz10]; exact (unhide HVA5).there) (by rw [hz10]; exact sizeEx) (all_oneCell_toArray (unhide HX5).one) ?_
                  refine hK.out _ _ (fun h => absurd rfl h) (fun _ => ?_)
                  clear hK K hHeld
                  try simp only [Act.put, sA, sB, sC]
                  refine last_done (by kernel_rfl) ?_ _
                  have HT17 := hide (ts_set (unhide HRV5) (unhide HVA5) (unhide HBP).1 (unhide HBP).2 (unhide HX5) (by have h1 := (unhide HBP).2; have h2 := unhide HBT; omega))
                  clear hM5 eM5
                  obtain ⟨w17, hw17⟩ : ∃ w17, w17 = w12.setCells b3 0 M5 := ⟨_, rfl⟩
                  rw [← hw17] at HT17
                  rw [← hw17]
                  clear hw17
                  go_upto_region 27 with (go_at_call 186; refine (close_any hT (unhide HT17).rv.px [41]).mono ?_; rintro e w18 ⟨rfl, hp1, hf1⟩; have HT18 := hide ((unhide HT17).move hp1 hf1 (unhide HNE).2.2); clear hp1 hf1 HT17)
                  refine wp_region_list ?_
                  refine wpList_load_mid rfl 29 (.tmp 3) rfl b3 0 rfl M5 _ (unhide HT18).va.range Tryz.underlying29 rfl (by rw [hlM5]; exact sizeEx) ?_
                  go_wp2_with (go_at_call 216; refine (unary_any 2 M5 _ (fun b => w.heap.size < b ∧ b ≠ b3) w18 (unhide HT18).ex).mono ?_; rintro e w19 ⟨M7, rfl, hx, hb⟩; have hl7 := hx.len; have hv7 := (unhide HT18).rv.below hb; have hst7 := hv7.out.storeC hx.len hx.one; have HX7 := hide hx; have HV19 := hide hv7; clear hx hb hv7)
                  have HX : Hid (ExM w19 (fun b => w.heap.size < b) M7 (unE 2 ((⟨5, 0, 0, 0, [], [], [], 0, 0⟩, Fo.cons a.1 a.2 r.1) : Ex))) := (unhide HX7).keep (fun _ _ _ => rfl) (fun b _ q => by
                    have h1 := ltX (unhide HT18).rv.out.1
                    rcases q with q | q
                    · exact q.1
                    · omega)
                  obtain ⟨h1, h2⟩ := (unhide HV19).done (S0 := S) (unhide HX) (unhide HMF) (unhide HNE).1 (unhide HNE).2.1
                  exact bodyPost_ret (h1.result rfl _ rfl) rfl (by rw [unhide HPP, unhide HEQ]; exact h2)
              · skip
                go_simp
                (go_at_call 188; refine (unhide HXP _ (unhide HT8).rv.px).mono ?_; rintro e w9 ⟨ad, m, k, rfl, hm4, hmc, hsl, hnil, hpx, hfr, hmu'⟩; clear hmc)
                go_wp2_with fail
                have HT9 := hide ((unhide HT8).move hpx hfr (unhide HNE).2.2)
                have HS9 : Hid (SlAt w9 (fun b => w.heap.size < b ∧ b ≠ b3) (.slice ad m k) r.1) := hsl.keep (fun _ _ _ => rfl) (fun b _ q => ⟨by have := ltX (unhide HT8).rv.out.1; omega, by have := ltX (unhide HT8).va.1; omega⟩)
                refine hK.out _ _ (fun _ => (unhide HT9).va) (fun hHeld2 => ?_)
                clear hK K hHeld
                have hHeld := hHeld2 (by decide)
                clear hHeld2
                try simp only [Act.put, sA, sB, sC]
                have HMF : Hid (muS T (closeS T [41] r.2) ≤ muS T S) := by
                  have h1 := muS_close T [41] r.2
                  have h2 := unhide HM3
                  show _ ≤ _
                  omega
                clear hfr hpx hsl
                refine last_one (i := 1) (by kernel_rfl) rfl (fun K hK => ?_)
                go_simp
                go_wp2_with fail
                rw [fold10 hlM]
                have hlt9 := ltX (unhide HT9).rv.out.1
                have HOq := hide (oe_one (base := w.heap.size + 1) (W := w9) (M := M) (E := a) (by omega) ((unhide HT9).ex.keep (fun _ _ _ => rfl) (fun b _ q => q.1)))
                have HA : Hid (ExM (w9.alloc (.cells M.toArray 29)) (fun b => w.heap.size < b ∧ b ≠ b3 ∧ b ≠ w9.heap.size) M a) := ((unhide HT9).ex.keep (fun _ _ _ => rfl) (fun b hl q => ⟨q.1, q.2, by omega⟩)).below (alX (Below.refl _ _) _)
                have HSQ : Hid (SlAt (w9.alloc (.cells M.toArray 29)) (fun b => w.heap.size < b ∧ b ≠ b3 ∧ b ≠ w9.heap.size) (.slice ad m k) r.1) := (unhide HS9).keep (fun b _ hl => (alX (Below.refl _ _) (.cells M.toArray 29)).block b hl) (fun b hl q => ⟨q.1, q.2, by omega⟩)
                have HBO : Hid (w9.heap.size ≠ b3 ∧ w.heap.size < w9.heap.size) := ⟨by have := ltX (unhide HT9).va.1; omega, hlt9⟩
                have HTq := hide ((unhide HT9).below (alX (Below.refl _ _) (.cells M.toArray 29)))
                obtain ⟨w10, hw10⟩ : ∃ w10, w10 = w9.alloc (.cells M.toArray 29) := ⟨_, rfl⟩
                rw [← hw10] at HOq HA HSQ HTq
                rw [← hw10]
                obtain ⟨bO, hbO⟩ : ∃ bO, bO = w9.heap.size := ⟨_, rfl⟩
                rw [← hbO] at HOq HA HSQ HBO
                rw [← hbO]
                clear hw10 hbO hlt9
                refine hK.out _ _ (fun _ => (unhide HTq).va) (fun hHeld2 => ?_)
                clear hK K hHeld
                have hHeld := hHeld2 (by decide)
                clear hHeld2
                try simp only [Act.put, sA, sB, sC]
                have HBP := hide (And.intro (unhide HTq).b3p (unhide HTq).b3b)
                have hqlt := ltX (unhide HTq).rv.out.1
                refine last_one (i := 4) (by kernel_rfl) rfl (fun K hK => ?_)
                rw [if_pos (by rfl)]
                rcases unhide HSQ with ⟨hf, c0, hv⟩ | ⟨bx, ox, kx, hv, hc1, hc2, hrow⟩
                · injection hv with e1 e2 e3
                  subst e1
                  have e4 : k = 0 := hnil rfl
                  subst e4
                  subst e3
                  subst e2
                  refine append_op_none (.tmp 45) (.tmp 47) rfl (unhide HOq) rfl rfl ?_
                  refine hK.out _ _ (fun _ => (unhide HTq).va) (fun hHeld2 => ?_)
                  clear hK K hHeld
                  have hHeld := hHeld2 (by decide)
                  clear hHeld2
                  try simp only [Act.put, sA, sB, sC]
                  have HSF : Hid (SlAt w10 (fun b => w.heap.size < b ∧ b ≠ b3) (.slice (some ⟨bO, 0, none⟩) 1 1) (Fo.cons a.1 a.2 r.1)) := by
                    rw [hf]
                    exact (unhide HOq).sliceQ (Q := (fun b => w.heap.size < b ∧ b ≠ b3)) (fun y hy => by rw [List.mem_singleton.1 hy]; exact (unhide HA).keep (fun _ _ _ => rfl) (fun b _ q => ⟨q.1, q.2.1⟩)) (fun g hg => by simp only [Value.ownBlock, Option.some.injEq] at hg; subst hg; exact ⟨(unhide HBO).2, (unhide HBO).1⟩)
                  obtain ⟨M5, hM5⟩ : ∃ M5 : List Value, M5 = ndC ⟨5, 0, 0, 0, [], [], [], 0, 0⟩ (.slice (some ⟨bO, 0, none⟩) 1 1) := ⟨_, rfl⟩
                  have eM5 : M5.toArray = #[.int .i64 5, .int .i64 0, .int .i64 0, .int .i64 0, .string ⟨#[]⟩, .string ⟨#[]⟩, .string ⟨#[]⟩, .slice (some ⟨bO, 0, none⟩) 1 1, .int .i64 0, .int .i64 0] := by rw [hM5]; rfl
                  have hlM5 : M5.length = 10 := by rw [hM5]; rfl
                  refine last_to (i := 5) (d := 49) (v := .agg M5.toArray) rfl rfl (by kernel_rfl) (by kernel_rfl) (by kernel_rfl) (by kernel_rfl) (by decide) (fun _ _ _ h => h) (Or.inl ⟨by rfl, ?_⟩) hHeld ?_
                  · (intro w' hSw; rw [eM5]; go_simp)
                  simp only [Act.put, sA, sB, sC]
                  have HX5 : Hid (ExM w10 (fun b => w.heap.size < b ∧ b ≠ b3) M5 ((⟨5, 0, 0, 0, [], [], [], 0, 0⟩, Fo.cons a.1 a.2 r.1) : Ex)) := ⟨_, hM5, unhide HSF⟩
                  have HRV5 := hide (unhide HTq).rv
                  have HVA5 := hide (unhide HTq).va
                  refine last_one (i := 6) (by kernel_rfl) rfl (fun K hK => ?_)
                  have hz10 : M5.toArray.size = 10 := by simpa using (unhide HX5).len
                  rw [if_pos (by rfl)]
                  refine wp_store_mid 29 (.tmp 3) (.tmp 49) rfl b3 0 M5.toArray rfl rfl (by rw [hz10]; exact (unhide HVA5).there) (by rw [hz10]; exact sizeEx) (all_oneCell_toArray (unhide HX5).one) ?_
                  refine hK.out _ _ (fun h => absurd rfl h) (fun _ => ?_)
                  clear hK K hHeld
                  try simp only [Act.put, sA, sB, sC]
                  refine last_done (by kernel_rfl) ?_ _
                  have HT17 := hide (ts_set (unhide HRV5) (unhide HVA5) (unhide HBP).1 (unhide HBP).2 (unhide HX5) (by have h1 := (unhide HBP).2; have h2 := unhide HBT; omega))
                  clear hM5 eM5
                  obtain ⟨w17, hw17⟩ : ∃ w17, w17 = w10.setCells b3 0 M5 := ⟨_, rfl⟩
                  rw [← hw17] at HT17
                  rw [← hw17]
                  clear hw17
                  go_upto_region 27 with (go_at_call 186; refine (close_any hT (unhide HT17).rv.px [41]).mono ?_; rintro e w18 ⟨rfl, hp1, hf1⟩; have HT18 := hide ((unhide HT17).move hp1 hf1 (unhide HNE).2.2); clear hp1 hf1 HT17)
                  refine wp_region_list ?_
                  refine wpList_load_mid rfl 29 (.tmp 3) rfl b3 0 rfl M5 _ (unhide HT18).va.range Tryz.underlying29 rfl (by rw [hlM5]; exact sizeEx) ?_
                  go_wp2_with (go_at_call 216; refine (unary_any 2 M5 _ (fun b => w.heap.size < b ∧ b ≠ b3) w18 (unhide HT18).ex).mono ?_; rintro e w19 ⟨M7, rfl, hx, hb⟩; have hl7 := hx.len; have hv7 := (unhide HT18).rv.below hb; have hst7 := hv7.out.storeC hx.len hx.one; have HX7 := hide hx; have HV19 := hide hv7; clear hx hb hv7)
                  have HX : Hid (ExM w19 (fun b => w.heap.size < b) M7 (unE 2 ((⟨5, 0, 0, 0, [], [], [], 0, 0⟩, Fo.cons a.1 a.2 r.1) : Ex))) := (unhide HX7).keep (fun _ _ _ => rfl) (fun b _ q => by
                    have h1 := ltX (unhide HT18).rv.out.1
                    rcases q with q | q
                    · exact q.1
                    · omega)
                  obtain ⟨h1, h2⟩ := (unhide HV19).done (S0 := S) (unhide HX) (unhide HMF) (unhide HNE).1 (unhide HNE).2.1
                  exact bodyPost_ret (h1.result rfl _ rfl) rfl (by rw [unhide HPP, unhide HEQ]; exact h2)
                · injection hv with e1 e2 e3
                  subst e1
                  subst e3
                  obtain ⟨Xs, hXs, hxx, hxr⟩ := row_list KL (by rw [← unhide HKL]; exact hrow)
                  have hlen : cnt r.1 = Xs.length := by rw [unhide HKL, cnt_foE, ← hXs, List.length_map]
                  rw [hlen] at e2
                  subst e2
                  refine append_op (.tmp 45) (.tmp 47) rfl (unhide HOq) (by omega) rfl Xs (fun y hy => (hxx y hy).keep (fun _ _ _ => rfl) (fun b _ q => ⟨by have := q.1; omega, by intro e; simp only [Value.ownBlock, Option.some.injEq] at e; exact q.2.2 e.symm⟩)) bx ox _ rfl hxr (by decide) (by omega) ?_
                  intro ad5 k5 w12 ho5 hb5 hg5 hn5
                  refine hK.out _ _ (fun _ => (unhide HTq).va.keep (hg5 b3 (ltX (unhide HTq).va.1) (by intro e; simp only [Value.ownBlock, Option.some.injEq] at e; exact (unhide HBO).1 e))) (fun hHeld2 => ?_)
                  clear hK K hHeld
                  have hHeld := hHeld2 (by decide)
                  clear hHeld2
                  try simp only [Act.put, sA, sB, sC]
                  have hkk : ∀ (N : List Value) (E : Ex), ExM w10 (fun b => w.heap.size < b ∧ b ≠ b3 ∧ b ≠ bO) N E → ExM w12 (fun b => w.heap.size < b ∧ b ≠ b3) N E := fun N E h => h.keep (fun b q hl => hg5 b hl (by intro e; simp only [Value.ownBlock, Option.some.injEq] at e; exact q.2.2 e.symm)) (fun b _ q => ⟨q.1, q.2.1⟩)
                  have HSF : Hid (SlAt w12 (fun b => w.heap.size < b ∧ b ≠ b3) (.slice ad5 (1 + Xs.length) k5) (Fo.cons a.1 a.2 r.1)) := by
                    have h := ho5.sliceQ (Q := (fun b => w.heap.size < b ∧ b ≠ b3)) (fun y hy => by
                      rcases List.mem_append.1 hy with hy | hy
                      · rw [List.mem_singleton.1 hy]; exact hkk _ _ (unhide HA)
                      · exact hkk _ _ (hxx y hy)) (fun g hg => by
                      rcases hn5 with e | e
                      · rw [hg] at e; simp only [Value.ownBlock, Option.some.injEq] at e; subst e; exact ⟨(unhide HBO).2, (unhide HBO).1⟩
                      · rw [hg] at e; simp only [Option.some.injEq] at e; subst e; exact ⟨by omega, by have := ltX (unhide HTq).va.1; omega⟩)
                    rw [unhide HKL, ← hXs, ← toFo_foE]
                    exact h
                  have hrv5 := (unhide HTq).rv.own hb5 (unhide HNE).2.2 (unhide HBT)
                  have hva5 := (unhide HTq).va.keep (hg5 b3 (ltX (unhide HTq).va.1) (by intro e; simp only [Value.ownBlock, Option.some.injEq] at e; exact (unhide HBO).1 e))
                  clear hkk hg5 hn5 ho5 hb5
                  obtain ⟨M5, hM5⟩ : ∃ M5 : List Value, M5 = ndC ⟨5, 0, 0, 0, [], [], [], 0, 0⟩ (.slice ad5 (1 + Xs.length) k5) := ⟨_, rfl⟩
                  have eM5 : M5.toArray = #[.int .i64 5, .int .i64 0, .int .i64 0, .int .i64 0, .string ⟨#[]⟩, .string ⟨#[]⟩, .string ⟨#[]⟩, .slice ad5 (1 + Xs.length) k5, .int .i64 0, .int .i64 0] := by rw [hM5]; rfl
                  have hlM5 : M5.length = 10 := by rw [hM5]; rfl
                  refine last_to (i := 5) (d := 49) (v := .agg M5.toArray) rfl rfl (by kernel_rfl) (by kernel_rfl) (by kernel_rfl) (by kernel_rfl) (by decide) (fun _ _ _ h => h) (Or.inl ⟨by rfl, ?_⟩) hHeld ?_
                  · (intro w' hSw; rw [eM5]; go_simp)
                  simp only [Act.put, sA, sB, sC]
                  have HX5 : Hid (ExM w12 (fun b => w.heap.size < b ∧ b ≠ b3) M5 ((⟨5, 0, 0, 0, [], [], [], 0, 0⟩, Fo.cons a.1 a.2 r.1) : Ex)) := ⟨_, hM5, unhide HSF⟩
                  have HRV5 := hide hrv5
                  have HVA5 := hide hva5
                  refine last_one (i := 6) (by kernel_rfl) rfl (fun K hK => ?_)
                  have hz10 : M5.toArray.size = 10 := by simpa using (unhide HX5).len
                  rw [if_pos (by rfl)]
                  refine wp_store_mid 29 (.tmp 3) (.tmp 49) rfl b3 0 M5.toArray rfl rfl (by rw [hz10]; exact (unhide HVA5).there) (by rw [hz10]; exact sizeEx) (all_oneCell_toArray (unhide HX5).one) ?_
                  refine hK.out _ _ (fun h => absurd rfl h) (fun _ => ?_)
                  clear hK K hHeld
                  try simp only [Act.put, sA, sB, sC]
                  refine last_done (by kernel_rfl) ?_ _
                  have HT17 := hide (ts_set (unhide HRV5) (unhide HVA5) (unhide HBP).1 (unhide HBP).2 (unhide HX5) (by have h1 := (unhide HBP).2; have h2 := unhide HBT; omega))
                  clear hM5 eM5
                  obtain ⟨w17, hw17⟩ : ∃ w17, w17 = w12.setCells b3 0 M5 := ⟨_, rfl⟩
                  rw [← hw17] at HT17
                  rw [← hw17]
                  clear hw17
                  go_upto_region 27 with (go_at_call 186; refine (close_any hT (unhide HT17).rv.px [41]).mono ?_; rintro e w18 ⟨rfl, hp1, hf1⟩; have HT18 := hide ((unhide HT17).move hp1 hf1 (unhide HNE).2.2); clear hp1 hf1 HT17)
                  refine wp_region_list ?_
                  refine wpList_load_mid rfl 29 (.tmp 3) rfl b3 0 rfl M5 _ (unhide HT18).va.range Tryz.underlying29 rfl (by rw [hlM5]; exact sizeEx) ?_
                  go_wp2_with (go_at_call 216; refine (unary_any 2 M5 _ (fun b => w.heap.size < b ∧ b ≠ b3) w18 (unhide HT18).ex).mono ?_; rintro e w19 ⟨M7, rfl, hx, hb⟩; have hl7 := hx.len; have hv7 := (unhide HT18).rv.below hb; have hst7 := hv7.out.storeC hx.len hx.one; have HX7 := hide hx; have HV19 := hide hv7; clear hx hb hv7)
                  have HX : Hid (ExM w19 (fun b => w.heap.size < b) M7 (unE 2 ((⟨5, 0, 0, 0, [], [], [], 0, 0⟩, Fo.cons a.1 a.2 r.1) : Ex))) := (unhide HX7).keep (fun _ _ _ => rfl) (fun b _ q => by
                    have h1 := ltX (unhide HT18).rv.out.1
                    rcases q with q | q
                    · exact q.1
                    · omega)
                  obtain ⟨h1, h2⟩ := (unhide HV19).done (S0 := S) (unhide HX) (unhide HMF) (unhide HNE).1 (unhide HNE).2.1
                  exact bodyPost_ret (h1.result rfl _ rfl) rfl (by rw [unhide HPP, unhide HEQ]; exact h2)
          | false =>
            cases hk5 : isS T 2 [66, 69, 84, 87, 69, 69, 78] (nextS T S1) with
            | true =>
              skip
              as_aux_lemma =>
                have HT3 := HTG
                have HW1 := hide hi
                have MHW1 : Hid (mayS T 2 [73, 83] S1 = S1) := by show mayS T 2 [73, 83] S1 = _; unfold mayS; rw [hi]; rfl
                have HW2 := hide hj
                have MHW2 : Hid (mayS T 2 [78, 79, 84] S1 = nextS T S1) := by show mayS T 2 [78, 79, 84] S1 = _; unfold mayS; rw [hj]; rfl
                have HW3 := hide hk3
                have MHW3 : Hid (mayS T 2 [73, 78] (nextS T S1) = (nextS T S1)) := by show mayS T 2 [73, 78] (nextS T S1) = _; unfold mayS; rw [hk3]; rfl
                have HW4 := hide hk5
                have MHW4 : Hid (mayS T 2 [66, 69, 84, 87, 69, 69, 78] (nextS T S1) = nextS T (nextS T S1)) := by show mayS T 2 [66, 69, 84, 87, 69, 69, 78] (nextS T S1) = _; unfold mayS; rw [hk5]; rfl
                have HEQ : Hid (testS T sub3 sub7 n S = (unE 2 (binE 17 (binE 10 a (sub3 (nextS T (nextS T S1))).1) (binE 8 a (sub3 (mustS T 2 [65, 78, 68] (sub3 (nextS T (nextS T S1))).2)).1)), (sub3 (mustS T 2 [65, 78, 68] (sub3 (nextS T (nextS T S1))).2)).2)) := by
                  show testS T sub3 sub7 n S = _
                  rw [unhide HEN]
                  unfold testN
                  rw [if_neg (by rw [hi]; decide)]
                  dsimp only
                  rw [unhide MHW2, hj, hk3, hk5]
                  rfl
                have HB7 : Hid (muS T (nextS T (nextS T S1)) ≤ B) := by
                  have h1 := muS_nle T (nextS T S1)
                  have h2 := muS_nle T S1
                  have h3 := unhide HM1
                  have h4 := unhide HMU
                  show _ ≤ _
                  omega
                clear hi hj hk3 hk5 HTG HEN
                go_upto_region 21 with (first | (go_at_call 150; refine (may_any hT (unhide HT3).rv.px [73, 83]).mono ?_; rw [unhide HW1]; rintro e w4 ⟨rfl, hp1, hf1⟩; rw [unhide MHW1] at hp1; have HT4 := hide ((unhide HT3).move hp1 hf1 (unhide HNE).2.2); clear hp1 hf1 HT3) | (go_at_call 150; refine (may_any hT (unhide HT4).rv.px [78, 79, 84]).mono ?_; rw [unhide HW2]; rintro e w5 ⟨rfl, hp1, hf1⟩; rw [unhide MHW2] at hp1; have HT5 := hide ((unhide HT4).move hp1 hf1 (unhide HNE).2.2); clear hp1 hf1 HT4) | (go_at_call 150; refine (may_any hT (unhide HT5).rv.px [73, 78]).mono ?_; rw [unhide HW3]; rintro e w6 ⟨rfl, hp1, hf1⟩; rw [unhide MHW3] at hp1; have HT6 := hide ((unhide HT5).move hp1 hf1 (unhide HNE).2.2); clear hp1 hf1 HT5) | (go_at_call 150; refine (may_any hT (unhide HT6).rv.px [66, 69, 84, 87, 69, 69, 78]).mono ?_; rw [unhide HW4]; rintro e w7 ⟨rfl, hp1, hf1⟩; rw [unhide MHW4] at hp1; have HT7 := hide ((unhide HT6).move hp1 hf1 (unhide HNE).2.2); clear hp1 hf1 HT6) | (go_at_call 225; refine ((unhide HT7).rv.call h3 (unhide HB7) (unhide HNE).2.2).mono ?_; rintro e w8 ⟨L, rfl, hx, hv, hf, hm⟩; have hlL := hx.len; have HXL := hide (hx.keep (Q' := fun b => w.heap.size < b ∧ b ≠ b3) (fun _ _ _ => rfl) (fun b _ q => by have h1 := ltX (unhide HT7).va.1; have h2 := (unhide HT7).b3b; exact ⟨by omega, by omega⟩)); have HT8 := hide ((unhide HT7).moveR hv hf (unhide HNE).2.2); have HML := hide hm; have HFL := hide hf; have hstL := hv.out.storeC hx.len hx.one; have hsnL := storeNew w8 hx.len hx.one; unfold zL at hsnL; clear hx hv hf hm))
                have HT9 := hide ((unhide HT8).below (alX (Below.refl _ _) (.cells L.toArray 29)))
                have HVL := hide (VrX.new w8 hlL)
                have HXLn := hide ((unhide HXL).below (alX (Below.refl _ _) (.cells L.toArray 29)))
                have HFAL := hide (FrX.of_below (p := p) (alX (Below.refl _ _) (.cells L.toArray 29) : Below w8.heap.size w8 _))
                have hloL := Nat.lt_trans (unhide HT8).b3b (ltX (unhide HT8).va.1)
                have hneL := Nat.ne_of_gt (ltX (unhide HT8).va.1)
                obtain ⟨w9, hw9⟩ : ∃ w9, w9 = w8.alloc (.cells L.toArray 29) := ⟨_, rfl⟩
                obtain ⟨bL, hbL⟩ : ∃ bL, bL = w8.heap.size := ⟨_, rfl⟩
                rw [← hw9] at HT9 HXLn HFAL
                rw [← hw9, ← hbL] at HVL
                rw [← hbL] at hloL hneL
                rw [← hw9, ← hbL]
                clear hstL hsnL hw9 hbL
                have HB10 : Hid (muS T (mustS T 2 [65, 78, 68] (sub3 (nextS T (nextS T S1))).2) ≤ B) := by
                  have h1 := muS_must T 2 [65, 78, 68] (sub3 (nextS T (nextS T S1))).2
                  have h2 := unhide HML
                  have h3 := unhide HB7
                  show _ ≤ _
                  omega
                go_upto_region 23 with (first | (go_at_call 153; refine (must_any hT (unhide HT9).rv.px [65, 78, 68]).mono ?_; rintro e w10 ⟨rfl, hp1, hf1⟩; have HVL10 := hide ((unhide HVL).keep (hf1.blk bL (ltX (unhide HVL).1) (by have := (unhide HNE).2.2; omega))); have HXL10 := hide ((unhide HXLn).keep (fun b hq hl => hf1.blk b hl (by have := (unhide HNE).2.2; have := hq.1; omega)) (fun _ _ h => h)); have HT10 := hide ((unhide HT9).move hp1 hf1 (unhide HNE).2.2); clear hp1 hf1 HT9) | (go_at_call 225; refine ((unhide HT10).rv.call h3 (unhide HB10) (unhide HNE).2.2).mono ?_; rintro e w11 ⟨H, rfl, hx, hv, hf, hm⟩; have hlH := hx.len; have HXH := hide (hx.keep (Q' := fun b => w.heap.size < b ∧ b ≠ b3) (fun _ _ _ => rfl) (fun b _ q => by have h1 := ltX (unhide HT10).va.1; have h2 := (unhide HT10).b3b; exact ⟨by omega, by omega⟩)); have HT11 := hide ((unhide HT10).moveR hv hf (unhide HNE).2.2); have HMH := hide hm; have HFH := hide hf; have hstH := hv.out.storeC hx.len hx.one; have hsnH := storeNew w11 hx.len hx.one; unfold zL at hsnH; clear hx hv hf hm))
                have HT12 := hide ((unhide HT11).below (alX (Below.refl _ _) (.cells H.toArray 29)))
                have HVH := hide (VrX.new w11 hlH)
                have HXHn := hide ((unhide HXH).below (alX (Below.refl _ _) (.cells H.toArray 29)))
                have HFAH := hide (FrX.of_below (p := p) (alX (Below.refl _ _) (.cells H.toArray 29) : Below w11.heap.size w11 _))
                have hloH := Nat.lt_trans (unhide HT11).b3b (ltX (unhide HT11).va.1)
                have hneH := Nat.ne_of_gt (ltX (unhide HT11).va.1)
                obtain ⟨w12, hw12⟩ : ∃ w12, w12 = w11.alloc (.cells H.toArray 29) := ⟨_, rfl⟩
                obtain ⟨bH, hbH⟩ : ∃ bH, bH = w11.heap.size := ⟨_, rfl⟩
                rw [← hw12] at HT12 HXHn HFAH
                rw [← hw12, ← hbH] at HVH
                rw [← hbH] at hloH hneH
                rw [← hw12, ← hbH]
                clear hstH hsnH hw12 hbH
                have HF12 := hide (((unhide HFH).trans (unhide HFAH)).drew)
                have HVL12 : Hid (VrX w12.drew bL L) := (unhide HVL10).keep ((unhide HF12).blk bL (ltX (unhide HVL10).1) (by have := (unhide HNE).2.2; omega))
                have HXL12 : Hid (ExM w12.drew (fun b => w.heap.size < b ∧ b ≠ b3) L (sub3 (nextS T (nextS T S1))).1) := (unhide HXL10).keep (fun b hq hl => (unhide HF12).blk b hl (by have := (unhide HNE).2.2; have := hq.1; omega)) (fun _ _ h => h)
                have HVH12 : Hid (VrX w12.drew bH H) := unhide HVH
                have HXH12 : Hid (ExM w12.drew (fun b => w.heap.size < b ∧ b ≠ b3) H (sub3 (mustS T 2 [65, 78, 68] (sub3 (nextS T (nextS T S1))).2)).1) := (unhide HXHn).below (Below.refl _ _).drew
                have HT13 : Hid (TS T p bt c w.heap.size b3 w w12.drew (sub3 (mustS T 2 [65, 78, 68] (sub3 (nextS T (nextS T S1))).2)).2 M a) := (unhide HT12).drew
                refine wp_region_last 7 (fun w' => VrX w' b3 M ∧ VrX w' bL L ∧ VrX w' bH H) (by kernel_rfl) ⟨(unhide HT13).va, unhide HVL12, unhide HVH12⟩ (fun hHeld => ?_)
                refine last_to (i := 0) (d := 61) (v := .agg M.toArray) rfl rfl (by kernel_rfl) (by kernel_rfl) (by kernel_rfl) (by kernel_rfl) (by decide) (fun _ _ _ h => h) (yieldsIf_load_mid (by rfl) 29 (.tmp 3) rfl b3 0 rfl M _ (fun w hw => hw.1.range) Tryz.underlying29 rfl (by rw [hlM]; exact sizeEx)) hHeld ?_
                simp only [Act.put, sA, sB, sC]
                refine last_to (i := 1) (d := 62) (v := .agg L.toArray) rfl rfl (by kernel_rfl) (by kernel_rfl) (by kernel_rfl) (by kernel_rfl) (by decide) (fun _ _ _ h => h) (yieldsIf_load_mid (by rfl) 29 (.tmp 8) rfl bL 0 rfl L _ (fun w hw => hw.2.1.range) Tryz.underlying29 rfl (by rw [hlL]; exact sizeEx)) hHeld ?_
                simp only [Act.put, sA, sB, sC]
                refine last_to (i := 3) (d := 64) (v := .agg M.toArray) rfl rfl (by kernel_rfl) (by kernel_rfl) (by kernel_rfl) (by kernel_rfl) (by decide) (fun _ _ _ h => h) (yieldsIf_load_mid (by rfl) 29 (.tmp 3) rfl b3 0 rfl M _ (fun w hw => hw.1.range) Tryz.underlying29 rfl (by rw [hlM]; exact sizeEx)) hHeld ?_
                simp only [Act.put, sA, sB, sC]
                refine last_to (i := 4) (d := 65) (v := .agg H.toArray) rfl rfl (by kernel_rfl) (by kernel_rfl) (by kernel_rfl) (by kernel_rfl) (by decide) (fun _ _ _ h => h) (yieldsIf_load_mid (by rfl) 29 (.tmp 9) rfl bH 0 rfl H _ (fun w hw => hw.2.2.range) Tryz.underlying29 rfl (by rw [hlH]; exact sizeEx)) hHeld ?_
                simp only [Act.put, sA, sB, sC]
                refine last_one (i := 2) (by kernel_rfl) rfl (fun K hK => ?_)
                go_simp
                (go_at_call 190; refine (binary_any 10 M L a _ (fun b => w.heap.size < b ∧ b ≠ b3) _ ((unhide HT13).ex) (unhide HXL12)).mono ?_; rintro e w14 ⟨R1, rfl, hx6, hb6⟩; have HR1 := hide (hx6.keep (Q' := (fun b => w.heap.size < b ∧ b ≠ b3)) (fun _ _ _ => rfl) (fun b _ q => by rcases q with q | q; (exact q); (have h1 := ltX (unhide HT13).va.1; have h2 := (unhide HT13).b3b; exact ⟨by omega, by omega⟩))); have HT14 := hide ((unhide HT13).below hb6); have hlR1 := hx6.len; have HVL14 := hide ((unhide HVL12).below hb6); have HVH14 := hide ((unhide HVH12).below hb6); have HXH14 := hide ((unhide HXH12).below hb6); clear hx6 hb6)
                go_wp2_with fail
                refine hK.out _ _ (fun _ => ⟨(unhide HT14).va, unhide HVL14, unhide HVH14⟩) (fun hHeld2 => ?_)
                clear hK K hHeld
                have hHeld := hHeld2 (by decide)
                clear hHeld2
                try simp only [Act.put, sA, sB, sC]
                refine last_one (i := 5) (by kernel_rfl) rfl (fun K hK => ?_)
                go_simp
                (go_at_call 190; refine (binary_any 8 M H a _ (fun b => w.heap.size < b ∧ b ≠ b3) _ ((unhide HT14).ex) (unhide HXH14)).mono ?_; rintro e w15 ⟨R2, rfl, hx6, hb6⟩; have HR2 := hide (hx6.keep (Q' := (fun b => w.heap.size < b ∧ b ≠ b3)) (fun _ _ _ => rfl) (fun b _ q => by rcases q with q | q; (exact q); (have h1 := ltX (unhide HT14).va.1; have h2 := (unhide HT14).b3b; exact ⟨by omega, by omega⟩))); have HT15 := hide ((unhide HT14).below hb6); have hlR2 := hx6.len; have HVL15 := hide ((unhide HVL14).below hb6); have HVH15 := hide ((unhide HVH14).below hb6); have HR1n := hide ((unhide HR1).below hb6); clear hx6 hb6)
                go_wp2_with fail
                refine hK.out _ _ (fun _ => ⟨(unhide HT15).va, unhide HVL15, unhide HVH15⟩) (fun hHeld2 => ?_)
                clear hK K hHeld
                have hHeld := hHeld2 (by decide)
                clear hHeld2
                try simp only [Act.put, sA, sB, sC]
                refine last_one (i := 6) (by kernel_rfl) rfl (fun K hK => ?_)
                go_simp
                (go_at_call 190; refine (binary_any 17 R1 R2 _ _ (fun b => w.heap.size < b ∧ b ≠ b3) _ ((unhide HR1n)) (unhide HR2)).mono ?_; rintro e w16 ⟨R3, rfl, hx6, hb6⟩; have HR3 := hide (hx6.keep (Q' := (fun b => w.heap.size < b ∧ b ≠ b3)) (fun _ _ _ => rfl) (fun b _ q => by rcases q with q | q; (exact q); (have h1 := ltX (unhide HT15).va.1; have h2 := (unhide HT15).b3b; exact ⟨by omega, by omega⟩))); have HT16 := hide ((unhide HT15).below hb6); have hlR3 := hx6.len; have HVL16 := hide ((unhide HVL15).below hb6); have HVH16 := hide ((unhide HVH15).below hb6); clear hx6 hb6)
                go_wp2_with fail
                refine hK.out _ _ (fun _ => ⟨(unhide HT16).va, unhide HVL16, unhide HVH16⟩) (fun hHeld2 => ?_)
                clear hK K hHeld
                have hHeld := hHeld2 (by decide)
                clear hHeld2
                try simp only [Act.put, sA, sB, sC]
                refine last_one (i := 7) (by kernel_rfl) rfl (fun K hK => ?_)
                have hz10 : R3.toArray.size = 10 := by simpa using (unhide HR3).len
                rw [if_pos (by rfl)]
                refine wp_store_mid 29 (.tmp 3) (.tmp 67) rfl b3 0 R3.toArray rfl rfl (by rw [hz10]; exact (unhide HT16).va.there) (by rw [hz10]; exact sizeEx) (all_oneCell_toArray (unhide HR3).one) ?_
                refine hK.out _ _ (fun h => absurd rfl h) (fun _ => ?_)
                clear hK K hHeld
                try simp only [Act.put, sA, sB, sC]
                refine last_done (by kernel_rfl) ?_ _
                have HT17 := hide ((unhide HT16).set (unhide HR3) (by have h1 := (unhide HT16).b3b; have h2 := unhide HBT; omega))
                have HMF : Hid (muS T (sub3 (mustS T 2 [65, 78, 68] (sub3 (nextS T (nextS T S1))).2)).2 ≤ muS T S) := by
                  have h1 := unhide HMH
                  have h2 := muS_must T 2 [65, 78, 68] (sub3 (nextS T (nextS T S1))).2
                  have h3 := unhide HML
                  have h4 := muS_nle T (nextS T S1)
                  have h5 := muS_nle T S1
                  have h6 := unhide HM1
                  show _ ≤ _
                  omega
                obtain ⟨w17, hw17⟩ : ∃ w17, w17 = w16.setCells b3 0 R3 := ⟨_, rfl⟩
                rw [← hw17] at HT17
                rw [← hw17]
                clear hw17
                go_upto_region 27 with fail
                refine wp_region_list ?_
                refine wpList_load_mid rfl 29 (.tmp 3) rfl b3 0 rfl R3 _ (unhide HT17).va.range Tryz.underlying29 rfl (by rw [hlR3]; exact sizeEx) ?_
                go_wp2_with (go_at_call 216; refine (unary_any 2 R3 _ (fun b => w.heap.size < b ∧ b ≠ b3) w17 (unhide HT17).ex).mono ?_; rintro e w18 ⟨M7, rfl, hx, hb⟩; have hl7 := hx.len; have hv7 := (unhide HT17).rv.below hb; have hst7 := hv7.out.storeC hx.len hx.one; have HX7 := hide hx; have HV18 := hide hv7; clear hx hb hv7)
                have HX : Hid (ExM w18 (fun b => w.heap.size < b) M7 (unE 2 (binE 17 (binE 10 a (sub3 (nextS T (nextS T S1))).1) (binE 8 a (sub3 (mustS T 2 [65, 78, 68] (sub3 (nextS T (nextS T S1))).2)).1)))) := (unhide HX7).keep (fun _ _ _ => rfl) (fun b _ q => by
                  have h1 := ltX (unhide HT17).rv.out.1
                  rcases q with q | q
                  · exact q.1
                  · omega)
                obtain ⟨h1, h2⟩ := (unhide HV18).done (S0 := S) (unhide HX) (unhide HMF) (unhide HNE).1 (unhide HNE).2.1
                exact bodyPost_ret (h1.result rfl _ rfl) rfl (by rw [unhide HPP, unhide HEQ]; exact h2)
            | false =>
              skip
              as_aux_lemma =>
                have HT3 := HTG
                have HW1 := hide hi
                have MHW1 : Hid (mayS T 2 [73, 83] S1 = S1) := by show mayS T 2 [73, 83] S1 = _; unfold mayS; rw [hi]; rfl
                have HW2 := hide hj
                have MHW2 : Hid (mayS T 2 [78, 79, 84] S1 = nextS T S1) := by show mayS T 2 [78, 79, 84] S1 = _; unfold mayS; rw [hj]; rfl
                have HW3 := hide hk3
                have MHW3 : Hid (mayS T 2 [73, 78] (nextS T S1) = (nextS T S1)) := by show mayS T 2 [73, 78] (nextS T S1) = _; unfold mayS; rw [hk3]; rfl
                have HW4 := hide hk5
                have MHW4 : Hid (mayS T 2 [66, 69, 84, 87, 69, 69, 78] (nextS T S1) = (nextS T S1)) := by show mayS T 2 [66, 69, 84, 87, 69, 69, 78] (nextS T S1) = _; unfold mayS; rw [hk5]; rfl
                have HEQ : Hid (testS T sub3 sub7 n S = (unE 2 a, failS T 1 (nextS T S1))) := by
                  show testS T sub3 sub7 n S = _
                  rw [unhide HEN]
                  unfold testN
                  rw [if_neg (by rw [hi]; decide)]
                  dsimp only
                  rw [unhide MHW2, hj, hk3, hk5]
                  rfl
                have HMF : Hid (muS T (failS T 1 (nextS T S1)) ≤ muS T S) := by
                  have h1 := muS_fail T 1 (by decide) (nextS T S1)
                  show _ ≤ _
                  omega
                clear hi hj hk3 hk5 HTG HEN
                go_upto_region 27 with (first | (go_at_call 150; refine (may_any hT (unhide HT3).rv.px [73, 83]).mono ?_; rw [unhide HW1]; rintro e w4 ⟨rfl, hp1, hf1⟩; rw [unhide MHW1] at hp1; have HT4 := hide ((unhide HT3).move hp1 hf1 (unhide HNE).2.2); clear hp1 hf1 HT3) | (go_at_call 150; refine (may_any hT (unhide HT4).rv.px [78, 79, 84]).mono ?_; rw [unhide HW2]; rintro e w5 ⟨rfl, hp1, hf1⟩; rw [unhide MHW2] at hp1; have HT5 := hide ((unhide HT4).move hp1 hf1 (unhide HNE).2.2); clear hp1 hf1 HT4) | (go_at_call 150; refine (may_any hT (unhide HT5).rv.px [73, 78]).mono ?_; rw [unhide HW3]; rintro e w6 ⟨rfl, hp1, hf1⟩; rw [unhide MHW3] at hp1; have HT6 := hide ((unhide HT5).move hp1 hf1 (unhide HNE).2.2); clear hp1 hf1 HT5) | (go_at_call 150; refine (may_any hT (unhide HT6).rv.px [66, 69, 84, 87, 69, 69, 78]).mono ?_; rw [unhide HW4]; rintro e w7 ⟨rfl, hp1, hf1⟩; rw [unhide MHW4] at hp1; have HT7 := hide ((unhide HT6).move hp1 hf1 (unhide HNE).2.2); clear hp1 hf1 HT6) | (go_at_call 105; refine (fail_any hT (unhide HT7).rv.px 1 (by decide)).mono ?_; rintro e w8 ⟨rfl, hp1, hf1⟩; have HT8 := hide ((unhide HT7).move hp1 hf1 (unhide HNE).2.2); clear hp1 hf1 HT7))
                refine wp_region_list ?_
                refine wpList_load_mid rfl 29 (.tmp 3) rfl b3 0 rfl M _ (unhide HT8).va.range Tryz.underlying29 rfl (by rw [hlM]; exact sizeEx) ?_
                go_wp2_with (go_at_call 216; refine (unary_any 2 M a (fun b => w.heap.size < b ∧ b ≠ b3) w8 (unhide HT8).ex).mono ?_; rintro e w9 ⟨M7, rfl, hx, hb⟩; have hl7 := hx.len; have hv7 := (unhide HT8).rv.below hb; have hst7 := hv7.out.storeC hx.len hx.one; have HX7 := hide hx; have HV9 := hide hv7; clear hx hb hv7)
                have HX : Hid (ExM w9 (fun b => w.heap.size < b) M7 (unE 2 a)) := (unhide HX7).keep (fun _ _ _ => rfl) (fun b _ q => by
                  have h1 := ltX (unhide HT8).rv.out.1
                  rcases q with q | q
                  · exact q.1
                  · omega)
                obtain ⟨h1, h2⟩ := (unhide HV9).done (S0 := S) (unhide HX) (unhide HMF) (unhide HNE).1 (unhide HNE).2.1
                exact bodyPost_ret (h1.result rfl _ rfl) rfl (by rw [unhide HPP, unhide HEQ]; exact h2)
        | false =>
          cases hk3 : isS T 2 [73, 78] S1 with
          | true =>
            skip
            as_aux_lemma =>
              have HT3 := HTG
              have HW1 := hide hi
              have MHW1 : Hid (mayS T 2 [73, 83] S1 = S1) := by show mayS T 2 [73, 83] S1 = _; unfold mayS; rw [hi]; rfl
              have HW2 := hide hj
              have MHW2 : Hid (mayS T 2 [78, 79, 84] S1 = S1) := by show mayS T 2 [78, 79, 84] S1 = _; unfold mayS; rw [hj]; rfl
              have HW3 := hide hk3
              have MHW3 : Hid (mayS T 2 [73, 78] S1 = nextS T S1) := by show mayS T 2 [73, 78] S1 = _; unfold mayS; rw [hk3]; rfl
              obtain ⟨S3, hS3⟩ : ∃ S3, S3 = openS T [40] (nextS T S1) := ⟨_, rfl⟩
              obtain ⟨r, hr⟩ : ∃ r, r = exprsS T sub7 n .nil S3 := ⟨_, rfl⟩
              obtain ⟨KL, hKL⟩ := exprsS_foE T sub7 n [] S3
              have HKL : Hid (r.1 = foE KL) := by rw [hr]; exact hKL
              have hm3 : muS T S3 + 1 ≤ muS T S := by
                have h1 := muS_next hT hk3 (by decide) (unhide HTG).rv.px.lt
                have h2 := muS_open T [40] (nextS T S1)
                have h3 := muS_nle T S1
                have h4 := unhide HM1
                rw [hS3]
                omega
              have hB1 : 1 ≤ B := by have := unhide HMU; omega
              have HXP : Hid (∀ W, PX T W p bt c S3 → Calls Tryz.prog 188 #[.pointer (some ⟨p, 0, none⟩)] W (RsP T p bt c W S3 r)) := fun W h => by rw [hr]; exact exprs_lv hT (B := B - 1) (by omega) (by omega) (h7 hB1) W S3 h (by have := unhide HMU; omega)
              have HEQ : Hid (testS T sub3 sub7 n S = (((⟨5, 0, 0, 0, [], [], [], 0, 0⟩, Fo.cons a.1 a.2 r.1) : Ex), closeS T [41] r.2)) := by
                show testS T sub3 sub7 n S = _
                rw [unhide HEN, hr, hS3]
                unfold testN
                rw [if_neg (by rw [hi]; decide)]
                dsimp only
                rw [unhide MHW2, hj, hk3]
                rfl
              have HS3 := hide hS3.symm
              have HM3 := hide hm3
              clear hi hj hk3 HTG HEN hKL hr hS3 hm3
              go_upto_region 17 with (first | (go_at_call 150; refine (may_any hT (unhide HT3).rv.px [73, 83]).mono ?_; rw [unhide HW1]; rintro e w4 ⟨rfl, hp1, hf1⟩; rw [unhide MHW1] at hp1; have HT4 := hide ((unhide HT3).move hp1 hf1 (unhide HNE).2.2); clear hp1 hf1 HT3) | (go_at_call 150; refine (may_any hT (unhide HT4).rv.px [78, 79, 84]).mono ?_; rw [unhide HW2]; rintro e w5 ⟨rfl, hp1, hf1⟩; rw [unhide MHW2] at hp1; have HT5 := hide ((unhide HT4).move hp1 hf1 (unhide HNE).2.2); clear hp1 hf1 HT4) | (go_at_call 150; refine (may_any hT (unhide HT5).rv.px [73, 78]).mono ?_; rw [unhide HW3]; rintro e w6 ⟨rfl, hp1, hf1⟩; rw [unhide MHW3] at hp1; have HT6 := hide ((unhide HT5).move hp1 hf1 (unhide HNE).2.2); clear hp1 hf1 HT5) | (go_at_call 184; refine (open_any hT (unhide HT6).rv.px [40]).mono ?_; rintro e w7 ⟨rfl, hp1, hf1⟩; rw [unhide HS3] at hp1; have HT7 := hide ((unhide HT6).move hp1 hf1 (unhide HNE).2.2); clear hp1 hf1 HT6))
              have HT8 := hide ((unhide HT7).drew)
              have hl := hlM
              refine wp_region_last 6 (fun w' => VrX w' b3 M) (by kernel_rfl) (unhide HT8).va (fun hHeld => ?_)
              obtain ⟨w8, hw8⟩ : ∃ w8, w8 = w7.drew := ⟨_, rfl⟩
              rw [← hw8] at HT8 hHeld
              rw [← hw8]
              clear hw8
              refine last_to (i := 0) (d := 44) (v := .agg M.toArray) rfl rfl (by kernel_rfl) (by kernel_rfl) (by kernel_rfl) (by kernel_rfl) (by decide) (fun _ _ _ h => h) (yieldsIf_load_mid (by rfl) 29 (.tmp 3) rfl b3 0 rfl M _ (fun w hw => hw.range) Tryz.underlying29 rfl (by rw [hl]; exact sizeEx)) hHeld ?_
              simp only [Act.put, sA, sB, sC]
              refine last_to (i := 2) (d := 46) (v := .pointer (some ⟨p, 0, none⟩)) rfl rfl (by kernel_rfl) (by kernel_rfl) (by kernel_rfl) (by kernel_rfl) (by decide) (fun _ _ _ h => h) (Or.inl ⟨by rfl, ?_⟩) hHeld ?_
              · (intro w' hSw; go_simp)
              simp only [Act.put, sA, sB, sC]
              refine last_two (i := 1) (j := 3) (by kernel_rfl) rfl rfl (fun K hK => ?_) (fun K hK => ?_)
              · skip
                go_simp
                go_wp2_with fail
                rw [fold10 hlM]
                have hlt8 := ltX (unhide HT8).rv.out.1
                have HO8 := hide (oe_one (base := w.heap.size + 1) (W := w8) (M := M) (E := a) (by omega) ((unhide HT8).ex.keep (fun _ _ _ => rfl) (fun b _ q => q.1)))
                have HA8 : Hid (ExM (w8.alloc (.cells M.toArray 29)) (fun b => w.heap.size < b ∧ b ≠ b3 ∧ b ≠ w8.heap.size) M a) := ((unhide HT8).ex.keep (fun _ _ _ => rfl) (fun b hl q => ⟨q.1, q.2, by omega⟩)).below (alX (Below.refl _ _) _)
                have HBO : Hid (w8.heap.size ≠ b3 ∧ w.heap.size < w8.heap.size) := ⟨by have := ltX (unhide HT8).va.1; omega, hlt8⟩
                have hz8 : (w8.alloc (.cells M.toArray 29)).heap.size = w8.heap.size + 1 := by simp
                have HT9 := hide ((unhide HT8).below (alX (Below.refl _ _) (.cells M.toArray 29)))
                obtain ⟨w9, hw9⟩ : ∃ w9, w9 = w8.alloc (.cells M.toArray 29) := ⟨_, rfl⟩
                rw [← hw9] at HO8 HA8 HT9 hz8
                rw [← hw9]
                obtain ⟨bO, hbO⟩ : ∃ bO, bO = w8.heap.size := ⟨_, rfl⟩
                rw [← hbO] at HO8 HA8 HBO hz8
                rw [← hbO]
                clear hw9 hbO
                refine hK.out _ _ (fun _ => (unhide HT9).va) (fun hHeld2 => ?_)
                clear hK K hHeld
                have hHeld := hHeld2 (by decide)
                clear hHeld2
                try simp only [Act.put, sA, sB, sC]
                refine last_one (i := 3) (by kernel_rfl) rfl (fun K hK => ?_)
                go_simp
                (go_at_call 188; refine (unhide HXP _ (unhide HT9).rv.px).mono ?_; rintro e w10 ⟨ad, m, k, rfl, hm4, hmc, hsl, hnil, hpx, hfr, hmu'⟩; clear hmc)
                go_wp2_with fail
                have HTq := hide ((unhide HT9).move hpx hfr (unhide HNE).2.2)
                have hpn := (unhide HNE).2.2
                have HOq := hide ((unhide HO8).keep (fun b h1 h2 => hfr.blk b h2 (by omega)))
                have HA := hide ((unhide HA8).keep (fun b q hl => hfr.blk b hl (by have := q.1; omega)) (fun _ _ h => h))
                have HSQ : Hid (SlAt w10 (fun b => w.heap.size < b ∧ b ≠ b3 ∧ b ≠ bO) (.slice ad m k) r.1) := hsl.keep (fun _ _ _ => rfl) (fun b _ q => ⟨by have := (unhide HBO).2; omega, by have := ltX (unhide HT9).va.1; omega, by omega⟩)
                refine hK.out _ _ (fun _ => (unhide HTq).va) (fun hHeld2 => ?_)
                clear hK K hHeld
                have hHeld := hHeld2 (by decide)
                clear hHeld2
                try simp only [Act.put, sA, sB, sC]
                have HMF : Hid (muS T (closeS T [41] r.2) ≤ muS T S) := by
                  have h1 := muS_close T [41] r.2
                  have h2 := unhide HM3
                  show _ ≤ _
                  omega
                clear hfr hpx hsl hlt8 hz8
                have HBP := hide (And.intro (unhide HTq).b3p (unhide HTq).b3b)
                have hqlt := ltX (unhide HTq).rv.out.1
                refine last_one (i := 4) (by kernel_rfl) rfl (fun K hK => ?_)
                rw [if_pos (by rfl)]
                rcases unhide HSQ with ⟨hf, c0, hv⟩ | ⟨bx, ox, kx, hv, hc1, hc2, hrow⟩
                · injection hv with e1 e2 e3
                  subst e1
                  have e4 : k = 0 := hnil rfl
                  subst e4
                  subst e3
                  subst e2
                  refine append_op_none (.tmp 45) (.tmp 47) rfl (unhide HOq) rfl rfl ?_
                  refine hK.out _ _ (fun _ => (unhide HTq).va) (fun hHeld2 => ?_)
                  clear hK K hHeld
                  have hHeld := hHeld2 (by decide)
                  clear hHeld2
                  try simp only [Act.put, sA, sB, sC]
                  have HSF : Hid (SlAt w10 (fun b => w.heap.size < b ∧ b ≠ b3) (.slice (some ⟨bO, 0, none⟩) 1 1) (Fo.cons a.1 a.2 r.1)) := by
                    rw [hf]
                    exact (unhide HOq).sliceQ (Q := (fun b => w.heap.size < b ∧ b ≠ b3)) (fun y hy => by rw [List.mem_singleton.1 hy]; exact (unhide HA).keep (fun _ _ _ => rfl) (fun b _ q => ⟨q.1, q.2.1⟩)) (fun g hg => by simp only [Value.ownBlock, Option.some.injEq] at hg; subst hg; exact ⟨(unhide HBO).2, (unhide HBO).1⟩)
                  obtain ⟨M5, hM5⟩ : ∃ M5 : List Value, M5 = ndC ⟨5, 0, 0, 0, [], [], [], 0, 0⟩ (.slice (some ⟨bO, 0, none⟩) 1 1) := ⟨_, rfl⟩
                  have eM5 : M5.toArray = #[.int .i64 5, .int .i64 0, .int .i64 0, .int .i64 0, .string ⟨#[]⟩, .string ⟨#[]⟩, .string ⟨#[]⟩, .slice (some ⟨bO, 0, none⟩) 1 1, .int .i64 0, .int .i64 0] := by rw [hM5]; rfl
                  have hlM5 : M5.length = 10 := by rw [hM5]; rfl
                  refine last_to (i := 5) (d := 49) (v := .agg M5.toArray) rfl rfl (by kernel_rfl) (by kernel_rfl) (by kernel_rfl) (by kernel_rfl) (by decide) (fun _ _ _ h => h) (Or.inl ⟨by rfl, ?_⟩) hHeld ?_
                  · (intro w' hSw; rw [eM5]; go_simp)
                  simp only [Act.put, sA, sB, sC]
                  have HX5 : Hid (ExM w10 (fun b => w.heap.size < b ∧ b ≠ b3) M5 ((⟨5, 0, 0, 0, [], [], [], 0, 0⟩, Fo.cons a.1 a.2 r.1) : Ex)) := ⟨_, hM5, unhide HSF⟩
                  have HRV5 := hide (unhide HTq).rv
                  have HVA5 := hide (unhide HTq).va
                  refine last_one (i := 6) (by kernel_rfl) rfl (fun K hK => ?_)
                  have hz10 : M5.toArray.size = 10 := by simpa using (unhide HX5).len
                  rw [if_pos (by rfl)]
                  refine wp_store_mid 29 (.tmp 3) (.tmp 49) rfl b3 0 M5.toArray rfl rfl (by rw [hz10]; exact (unhide HVA5).there) (by rw [hz10]; exact sizeEx) (all_oneCell_toArray (unhide HX5).one) ?_
                  refine hK.out _ _ (fun h => absurd rfl h) (fun _ => ?_)
                  clear hK K hHeld
                  try simp only [Act.put, sA, sB, sC]
                  refine last_done (by kernel_rfl) ?_ _
                  have HT17 := hide (ts_set (unhide HRV5) (unhide HVA5) (unhide HBP).1 (unhide HBP).2 (unhide HX5) (by have h1 := (unhide HBP).2; have h2 := unhide HBT; omega))
                  clear hM5 eM5
                  obtain ⟨w17, hw17⟩ : ∃ w17, w17 = w10.setCells b3 0 M5 := ⟨_, rfl⟩
                  rw [← hw17] at HT17
                  rw [← hw17]
                  clear hw17
                  go_upto_region 28 with (go_at_call 186; refine (close_any hT (unhide HT17).rv.px [41]).mono ?_; rintro e w18 ⟨rfl, hp1, hf1⟩; have HT18 := hide ((unhide HT17).move hp1 hf1 (unhide HNE).2.2); clear hp1 hf1 HT17)
                  have hst := (unhide HT18).rv.out.storeC hlM5 (unhide HT18).ex.one
                  refine wp_region_list ?_
                  refine wpList_load_mid rfl 29 (.tmp 3) rfl b3 0 rfl M5 _ (unhide HT18).va.range Tryz.underlying29 rfl (by rw [hlM5]; exact sizeEx) ?_
                  go_wp2_with fail
                  have HX : Hid (ExM w18 (fun b => w.heap.size < b) M5 ((⟨5, 0, 0, 0, [], [], [], 0, 0⟩, Fo.cons a.1 a.2 r.1) : Ex)) := (unhide HT18).ex.keep (fun _ _ _ => rfl) (fun b _ q => q.1)
                  have HV18 := hide (unhide HT18).rv
                  obtain ⟨h1, h2⟩ := (unhide HV18).done (S0 := S) (unhide HX) (unhide HMF) (unhide HNE).1 (unhide HNE).2.1
                  exact bodyPost_ret (h1.result rfl _ rfl) rfl (by rw [unhide HPP, unhide HEQ]; exact h2)
                · injection hv with e1 e2 e3
                  subst e1
                  subst e3
                  obtain ⟨Xs, hXs, hxx, hxr⟩ := row_list KL (by rw [← unhide HKL]; exact hrow)
                  have hlen : cnt r.1 = Xs.length := by rw [unhide HKL, cnt_foE, ← hXs, List.length_map]
                  rw [hlen] at e2
                  subst e2
                  refine append_op (.tmp 45) (.tmp 47) rfl (unhide HOq) (by omega) rfl Xs (fun y hy => (hxx y hy).keep (fun _ _ _ => rfl) (fun b _ q => ⟨by have := q.1; omega, by intro e; simp only [Value.ownBlock, Option.some.injEq] at e; exact q.2.2 e.symm⟩)) bx ox _ rfl hxr (by decide) (by omega) ?_
                  intro ad5 k5 w12 ho5 hb5 hg5 hn5
                  refine hK.out _ _ (fun _ => (unhide HTq).va.keep (hg5 b3 (ltX (unhide HTq).va.1) (by intro e; simp only [Value.ownBlock, Option.some.injEq] at e; exact (unhide HBO).1 e))) (fun hHeld2 => ?_)
                  clear hK K hHeld
                  have hHeld := hHeld2 (by decide)
                  clear hHeld2
                  try simp only [Act.put, sA, sB, sC]
                  have hkk : ∀ (N : List Value) (E : Ex), ExM w10 (fun b => w.heap.size < b ∧ b ≠ b3 ∧ b ≠ bO) N E → ExM w12 (fun b => w.heap.size < b ∧ b ≠ b3) N E := fun N E h => h.keep (fun b q hl => hg5 b hl (by intro e; simp only [Value.ownBlock, Option.some.injEq] at e; exact q.2.2 e.symm)) (fun b _ q => ⟨q.1, q.2.1⟩)
                  have HSF : Hid (SlAt w12 (fun b => w.heap.size < b ∧ b ≠ b3) (.slice ad5 (1 + Xs.length) k5) (Fo.cons a.1 a.2 r.1)) := by
                    have h := ho5.sliceQ (Q := (fun b => w.heap.size < b ∧ b ≠ b3)) (fun y hy => by
                      rcases List.mem_append.1 hy with hy | hy
                      · rw [List.mem_singleton.1 hy]; exact hkk _ _ (unhide HA)
                      · exact hkk _ _ (hxx y hy)) (fun g hg => by
                      rcases hn5 with e | e
                      · rw [hg] at e; simp only [Value.ownBlock, Option.some.injEq] at e; subst e; exact ⟨(unhide HBO).2, (unhide HBO).1⟩
                      · rw [hg] at e; simp only [Option.some.injEq] at e; subst e; exact ⟨by omega, by have := ltX (unhide HTq).va.1; omega⟩)
                    rw [unhide HKL, ← hXs, ← toFo_foE]
                    exact h
                  have hrv5 := (unhide HTq).rv.own hb5 (unhide HNE).2.2 (unhide HBT)
                  have hva5 := (unhide HTq).va.keep (hg5 b3 (ltX (unhide HTq).va.1) (by intro e; simp only [Value.ownBlock, Option.some.injEq] at e; exact (unhide HBO).1 e))
                  clear hkk hg5 hn5 ho5 hb5
                  obtain ⟨M5, hM5⟩ : ∃ M5 : List Value, M5 = ndC ⟨5, 0, 0, 0, [], [], [], 0, 0⟩ (.slice ad5 (1 + Xs.length) k5) := ⟨_, rfl⟩
                  have eM5 : M5.toArray = #[.int .i64 5, .int .i64 0, .int .i64 0, .int .i64 0, .string ⟨#[]⟩, .string ⟨#[]⟩, .string ⟨#[]⟩, .slice ad5 (1 + Xs.length) k5, .int .i64 0, .int .i64 0] := by rw [hM5]; rfl
                  have hlM5 : M5.length = 10 := by rw [hM5]; rfl
                  refine last_to (i := 5) (d := 49) (v := .agg M5.toArray) rfl rfl (by kernel_rfl) (by kernel_rfl) (by kernel_rfl) (by kernel_rfl) (by decide) (fun _ _ _ h => h) (Or.inl ⟨by rfl, ?_⟩) hHeld ?_
                  · (intro w' hSw; rw [eM5]; go_simp)
                  simp only [Act.put, sA, sB, sC]
                  have HX5 : Hid (ExM w12 (fun b => w.heap.size < b ∧ b ≠ b3) M5 ((⟨5, 0, 0, 0, [], [], [], 0, 0⟩, Fo.cons a.1 a.2 r.1) : Ex)) := ⟨_, hM5, unhide HSF⟩
                  have HRV5 := hide hrv5
                  have HVA5 := hide hva5
                  refine last_one (i := 6) (by kernel_rfl) rfl (fun K hK => ?_)
                  have hz10 : M5.toArray.size = 10 := by simpa using (unhide HX5).len
                  rw [if_pos (by rfl)]
                  refine wp_store_mid 29 (.tmp 3) (.tmp 49) rfl b3 0 M5.toArray rfl rfl (by rw [hz10]; exact (unhide HVA5).there) (by rw [hz10]; exact sizeEx) (all_oneCell_toArray (unhide HX5).one) ?_
                  refine hK.out _ _ (fun h => absurd rfl h) (fun _ => ?_)
                  clear hK K hHeld
                  try simp only [Act.put, sA, sB, sC]
                  refine last_done (by kernel_rfl) ?_ _
                  have HT17 := hide (ts_set (unhide HRV5) (unhide HVA5) (unhide HBP).1 (unhide HBP).2 (unhide HX5) (by have h1 := (unhide HBP).2; have h2 := unhide HBT; omega))
                  clear hM5 eM5
                  obtain ⟨w17, hw17⟩ : ∃ w17, w17 = w12.setCells b3 0 M5 := ⟨_, rfl⟩
                  rw [← hw17] at HT17
                  rw [← hw17]
                  clear hw17
                  go_upto_region 28 with (go_at_call 186; refine (close_any hT (unhide HT17).rv.px [41]).mono ?_; rintro e w18 ⟨rfl, hp1, hf1⟩; have HT18 := hide ((unhide HT17).move hp1 hf1 (unhide HNE).2.2); clear hp1 hf1 HT17)
                  have hst := (unhide HT18).rv.out.storeC hlM5 (unhide HT18).ex.one
                  refine wp_region_list ?_
                  refine wpList_load_mid rfl 29 (.tmp 3) rfl b3 0 rfl M5 _ (unhide HT18).va.range Tryz.underlying29 rfl (by rw [hlM5]; exact sizeEx) ?_
                  go_wp2_with fail
                  have HX : Hid (ExM w18 (fun b => w.heap.size < b) M5 ((⟨5, 0, 0, 0, [], [], [], 0, 0⟩, Fo.cons a.1 a.2 r.1) : Ex)) := (unhide HT18).ex.keep (fun _ _ _ => rfl) (fun b _ q => q.1)
                  have HV18 := hide (unhide HT18).rv
                  obtain ⟨h1, h2⟩ := (unhide HV18).done (S0 := S) (unhide HX) (unhide HMF) (unhide HNE).1 (unhide HNE).2.1
                  exact bodyPost_ret (h1.result rfl _ rfl) rfl (by rw [unhide HPP, unhide HEQ]; exact h2)
              · skip
                go_simp
                (go_at_call 188; refine (unhide HXP _ (unhide HT8).rv.px).mono ?_; rintro e w9 ⟨ad, m, k, rfl, hm4, hmc, hsl, hnil, hpx, hfr, hmu'⟩; clear hmc)
                go_wp2_with fail
                have HT9 := hide ((unhide HT8).move hpx hfr (unhide HNE).2.2)
                have HS9 : Hid (SlAt w9 (fun b => w.heap.size < b ∧ b ≠ b3) (.slice ad m k) r.1) := hsl.keep (fun _ _ _ => rfl) (fun b _ q => ⟨by have := ltX (unhide HT8).rv.out.1; omega, by have := ltX (unhide HT8).va.1; omega⟩)
                refine hK.out _ _ (fun _ => (unhide HT9).va) (fun hHeld2 => ?_)
                clear hK K hHeld
                have hHeld := hHeld2 (by decide)
                clear hHeld2
                try simp only [Act.put, sA, sB, sC]
                have HMF : Hid (muS T (closeS T [41] r.2) ≤ muS T S) := by
                  have h1 := muS_close T [41] r.2
                  have h2 := unhide HM3
                  show _ ≤ _
                  omega
                clear hfr hpx hsl
                refine last_one (i := 1) (by kernel_rfl) rfl (fun K hK => ?_)
                go_simp
                go_wp2_with fail
                rw [fold10 hlM]
                have hlt9 := ltX (unhide HT9).rv.out.1
                have HOq := hide (oe_one (base := w.heap.size + 1) (W := w9) (M := M) (E := a) (by omega) ((unhide HT9).ex.keep (fun _ _ _ => rfl) (fun b _ q => q.1)))
                have HA : Hid (ExM (w9.alloc (.cells M.toArray 29)) (fun b => w.heap.size < b ∧ b ≠ b3 ∧ b ≠ w9.heap.size) M a) := ((unhide HT9).ex.keep (fun _ _ _ => rfl) (fun b hl q => ⟨q.1, q.2, by omega⟩)).below (alX (Below.refl _ _) _)
                have HSQ : Hid (SlAt (w9.alloc (.cells M.toArray 29)) (fun b => w.heap.size < b ∧ b ≠ b3 ∧ b ≠ w9.heap.size) (.slice ad m k) r.1) := (unhide HS9).keep (fun b _ hl => (alX (Below.refl _ _) (.cells M.toArray 29)).block b hl) (fun b hl q => ⟨q.1, q.2, by omega⟩)
                have HBO : Hid (w9.heap.size ≠ b3 ∧ w.heap.size < w9.heap.size) := ⟨by have := ltX (unhide HT9).va.1; omega, hlt9⟩
                have HTq := hide ((unhide HT9).below (alX (Below.refl _ _) (.cells M.toArray 29)))
                obtain ⟨w10, hw10⟩ : ∃ w10, w10 = w9.alloc (.cells M.toArray 29) := ⟨_, rfl⟩
                rw [← hw10] at HOq HA HSQ HTq
                rw [← hw10]
                obtain ⟨bO, hbO⟩ : ∃ bO, bO = w9.heap.size := ⟨_, rfl⟩
                rw [← hbO] at HOq HA HSQ HBO
                rw [← hbO]
                clear hw10 hbO hlt9
                refine hK.out _ _ (fun _ => (unhide HTq).va) (fun hHeld2 => ?_)
                clear hK K hHeld
                have hHeld := hHeld2 (by decide)
                clear hHeld2
                try simp only [Act.put, sA, sB, sC]
                have HBP := hide (And.intro (unhide HTq).b3p (unhide HTq).b3b)
                have hqlt := ltX (unhide HTq).rv.out.1
                refine last_one (i := 4) (by kernel_rfl) rfl (fun K hK => ?_)
                rw [if_pos (by rfl)]
                rcases unhide HSQ with ⟨hf, c0, hv⟩ | ⟨bx, ox, kx, hv, hc1, hc2, hrow⟩
                · injection hv with e1 e2 e3
                  subst e1
                  have e4 : k = 0 := hnil rfl
                  subst e4
                  subst e3
                  subst e2
                  refine append_op_none (.tmp 45) (.tmp 47) rfl (unhide HOq) rfl rfl ?_
                  refine hK.out _ _ (fun _ => (unhide HTq).va) (fun hHeld2 => ?_)
                  clear hK K hHeld
                  have hHeld := hHeld2 (by decide)
                  clear hHeld2
                  try simp only [Act.put, sA, sB, sC]
                  have HSF : Hid (SlAt w10 (fun b => w.heap.size < b ∧ b ≠ b3) (.slice (some ⟨bO, 0, none⟩) 1 1) (Fo.cons a.1 a.2 r.1)) := by
                    rw [hf]
                    exact (unhide HOq).sliceQ (Q := (fun b => w.heap.size < b ∧ b ≠ b3)) (fun y hy => by rw [List.mem_singleton.1 hy]; exact (unhide HA).keep (fun _ _ _ => rfl) (fun b _ q => ⟨q.1, q.2.1⟩)) (fun g hg => by simp only [Value.ownBlock, Option.some.injEq] at hg; subst hg; exact ⟨(unhide HBO).2, (unhide HBO).1⟩)
                  obtain ⟨M5, hM5⟩ : ∃ M5 : List Value, M5 = ndC ⟨5, 0, 0, 0, [], [], [], 0, 0⟩ (.slice (some ⟨bO, 0, none⟩) 1 1) := ⟨_, rfl⟩
                  have eM5 : M5.toArray = #[.int .i64 5, .int .i64 0, .int .i64 0, .int .i64 0, .string ⟨#[]⟩, .string ⟨#[]⟩, .string ⟨#[]⟩, .slice (some ⟨bO, 0, none⟩) 1 1, .int .i64 0, .int .i64 0] := by rw [hM5]; rfl
                  have hlM5 : M5.length = 10 := by rw [hM5]; rfl
                  refine last_to (i := 5) (d := 49) (v := .agg M5.toArray) rfl rfl (by kernel_rfl) (by kernel_rfl) (by kernel_rfl) (by kernel_rfl) (by decide) (fun _ _ _ h => h) (Or.inl ⟨by rfl, ?_⟩) hHeld ?_
                  · (intro w' hSw; rw [eM5]; go_simp)
                  simp only [Act.put, sA, sB, sC]
                  have HX5 : Hid (ExM w10 (fun b => w.heap.size < b ∧ b ≠ b3) M5 ((⟨5, 0, 0, 0, [], [], [], 0, 0⟩, Fo.cons a.1 a.2 r.1) : Ex)) := ⟨_, hM5, unhide HSF⟩
                  have HRV5 := hide (unhide HTq).rv
                  have HVA5 := hide (unhide HTq).va
                  refine last_one (i := 6) (by kernel_rfl) rfl (fun K hK => ?_)
                  have hz10 : M5.toArray.size = 10 := by simpa using (unhide HX5).len
                  rw [if_pos (by rfl)]
                  refine wp_store_mid 29 (.tmp 3) (.tmp 49) rfl b3 0 M5.toArray rfl rfl (by rw [hz10]; exact (unhide HVA5).there) (by rw [hz10]; exact sizeEx) (all_oneCell_toArray (unhide HX5).one) ?_
                  refine hK.out _ _ (fun h => absurd rfl h) (fun _ => ?_)
                  clear hK K hHeld
                  try simp only [Act.put, sA, sB, sC]
                  refine last_done (by kernel_rfl) ?_ _
                  have HT17 := hide (ts_set (unhide HRV5) (unhide HVA5) (unhide HBP).1 (unhide HBP).2 (unhide HX5) (by have h1 := (unhide HBP).2; have h2 := unhide HBT; omega))
                  clear hM5 eM5
                  obtain ⟨w17, hw17⟩ : ∃ w17, w17 = w10.setCells b3 0 M5 := ⟨_, rfl⟩
                  rw [← hw17] at HT17
                  rw [← hw17]
                  clear hw17
                  go_upto_region 28 with (go_at_call 186; refine (close_any hT (unhide HT17).rv.px [41]).mono ?_; rintro e w18 ⟨rfl, hp1, hf1⟩; have HT18 := hide ((unhide HT17).move hp1 hf1 (unhide HNE).2.2); clear hp1 hf1 HT17)
                  have hst := (unhide HT18).rv.out.storeC hlM5 (unhide HT18).ex.one
                  refine wp_region_list ?_
                  refine wpList_load_mid rfl 29 (.tmp 3) rfl b3 0 rfl M5 _ (unhide HT18).va.range Tryz.underlying29 rfl (by rw [hlM5]; exact sizeEx) ?_
                  go_wp2_with fail
                  have HX : Hid (ExM w18 (fun b => w.heap.size < b) M5 ((⟨5, 0, 0, 0, [], [], [], 0, 0⟩, Fo.cons a.1 a.2 r.1) : Ex)) := (unhide HT18).ex.keep (fun _ _ _ => rfl) (fun b _ q => q.1)
                  have HV18 := hide (unhide HT18).rv
                  obtain ⟨h1, h2⟩ := (unhide HV18).done (S0 := S) (unhide HX) (unhide HMF) (unhide HNE).1 (unhide HNE).2.1
                  exact bodyPost_ret (h1.result rfl _ rfl) rfl (by rw [unhide HPP, unhide HEQ]; exact h2)
                · injection hv with e1 e2 e3
                  subst e1
                  subst e3
                  obtain ⟨Xs, hXs, hxx, hxr⟩ := row_list KL (by rw [← unhide HKL]; exact hrow)
                  have hlen : cnt r.1 = Xs.length := by rw [unhide HKL, cnt_foE, ← hXs, List.length_map]
                  rw [hlen] at e2
                  subst e2
                  refine append_op (.tmp 45) (.tmp 47) rfl (unhide HOq) (by omega) rfl Xs (fun y hy => (hxx y hy).keep (fun _ _ _ => rfl) (fun b _ q => ⟨by have := q.1; omega, by intro e; simp only [Value.ownBlock, Option.some.injEq] at e; exact q.2.2 e.symm⟩)) bx ox _ rfl hxr (by decide) (by omega) ?_
                  intro ad5 k5 w12 ho5 hb5 hg5 hn5
                  refine hK.out _ _ (fun _ => (unhide HTq).va.keep (hg5 b3 (ltX (unhide HTq).va.1) (by intro e; simp only [Value.ownBlock, Option.some.injEq] at e; exact (unhide HBO).1 e))) (fun hHeld2 => ?_)
                  clear hK K hHeld
                  have hHeld := hHeld2 (by decide)
                  clear hHeld2
                  try simp only [Act.put, sA, sB, sC]
                  have hkk : ∀ (N : List Value) (E : Ex), ExM w10 (fun b => w.heap.size < b ∧ b ≠ b3 ∧ b ≠ bO) N E → ExM w12 (fun b => w.heap.size < b ∧ b ≠ b3) N E := fun N E h => h.keep (fun b q hl => hg5 b hl (by intro e; simp only [Value.ownBlock, Option.some.injEq] at e; exact q.2.2 e.symm)) (fun b _ q => ⟨q.1, q.2.1⟩)
                  have HSF : Hid (SlAt w12 (fun b => w.heap.size < b ∧ b ≠ b3) (.slice ad5 (1 + Xs.length) k5) (Fo.cons a.1 a.2 r.1)) := by
                    have h := ho5.sliceQ (Q := (fun b => w.heap.size < b ∧ b ≠ b3)) (fun y hy => by
                      rcases List.mem_append.1 hy with hy | hy
                      · rw [List.mem_singleton.1 hy]; exact hkk _ _ (unhide HA)
                      · exact hkk _ _ (hxx y hy)) (fun g hg => by
                      rcases hn5 with e | e
                      · rw [hg] at e; simp only [Value.ownBlock, Option.some.injEq] at e; subst e; exact ⟨(unhide HBO).2, (unhide HBO).1⟩
                      · rw [hg] at e; simp only [Option.some.injEq] at e; subst e; exact ⟨by omega, by have := ltX (unhide HTq).va.1; omega⟩)
                    rw [unhide HKL, ← hXs, ← toFo_foE]
                    exact h
                  have hrv5 := (unhide HTq).rv.own hb5 (unhide HNE).2.2 (unhide HBT)
                  have hva5 := (unhide HTq).va.keep (hg5 b3 (ltX (unhide HTq).va.1) (by intro e; simp only [Value.ownBlock, Option.some.injEq] at e; exact (unhide HBO).1 e))
                  clear hkk hg5 hn5 ho5 hb5
                  obtain ⟨M5, hM5⟩ : ∃ M5 : List Value, M5 = ndC ⟨5, 0, 0, 0, [], [], [], 0, 0⟩ (.slice ad5 (1 + Xs.length) k5) := ⟨_, rfl⟩
                  have eM5 : M5.toArray = #[.int .i64 5, .int .i64 0, .int .i64 0, .int .i64 0, .string ⟨#[]⟩, .string ⟨#[]⟩, .string ⟨#[]⟩, .slice ad5 (1 + Xs.length) k5, .int .i64 0, .int .i64 0] := by rw [hM5]; rfl
                  have hlM5 : M5.length = 10 := by rw [hM5]; rfl
                  refine last_to (i := 5) (d := 49) (v := .agg M5.toArray) rfl rfl (by kernel_rfl) (by kernel_rfl) (by kernel_rfl) (by kernel_rfl) (by decide) (fun _ _ _ h => h) (Or.inl ⟨by rfl, ?_⟩) hHeld ?_
                  · (intro w' hSw; rw [eM5]; go_simp)
                  simp only [Act.put, sA, sB, sC]
                  have HX5 : Hid (ExM w12 (fun b => w.heap.size < b ∧ b ≠ b3) M5 ((⟨5, 0, 0, 0, [], [], [], 0, 0⟩, Fo.cons a.1 a.2 r.1) : Ex)) := ⟨_, hM5, unhide HSF⟩
                  have HRV5 := hide hrv5
                  have HVA5 := hide hva5
                  refine last_one (i := 6) (by kernel_rfl) rfl (fun K hK => ?_)
                  have hz10 : M5.toArray.size = 10 := by simpa using (unhide HX5).len
                  rw [if_pos (by rfl)]
                  refine wp_store_mid 29 (.tmp 3) (.tmp 49) rfl b3 0 M5.toArray rfl rfl (by rw [hz10]; exact (unhide HVA5).there) (by rw [hz10]; exact sizeEx) (all_oneCell_toArray (unhide HX5).one) ?_
                  refine hK.out _ _ (fun h => absurd rfl h) (fun _ => ?_)
                  clear hK K hHeld
                  try simp only [Act.put, sA, sB, sC]
                  refine last_done (by kernel_rfl) ?_ _
                  have HT17 := hide (ts_set (unhide HRV5) (unhide HVA5) (unhide HBP).1 (unhide HBP).2 (unhide HX5) (by have h1 := (unhide HBP).2; have h2 := unhide HBT; omega))
                  clear hM5 eM5
                  obtain ⟨w17, hw17⟩ : ∃ w17, w17 = w12.setCells b3 0 M5 := ⟨_, rfl⟩
                  rw [← hw17] at HT17
                  rw [← hw17]
                  clear hw17
                  go_upto_region 28 with (go_at_call 186; refine (close_any hT (unhide HT17).rv.px [41]).mono ?_; rintro e w18 ⟨rfl, hp1, hf1⟩; have HT18 := hide ((unhide HT17).move hp1 hf1 (unhide HNE).2.2); clear hp1 hf1 HT17)
                  have hst := (unhide HT18).rv.out.storeC hlM5 (unhide HT18).ex.one
                  refine wp_region_list ?_
                  refine wpList_load_mid rfl 29 (.tmp 3) rfl b3 0 rfl M5 _ (unhide HT18).va.range Tryz.underlying29 rfl (by rw [hlM5]; exact sizeEx) ?_
                  go_wp2_with fail
                  have HX : Hid (ExM w18 (fun b => w.heap.size < b) M5 ((⟨5, 0, 0, 0, [], [], [], 0, 0⟩, Fo.cons a.1 a.2 r.1) : Ex)) := (unhide HT18).ex.keep (fun _ _ _ => rfl) (fun b _ q => q.1)
                  have HV18 := hide (unhide HT18).rv
                  obtain ⟨h1, h2⟩ := (unhide HV18).done (S0 := S) (unhide HX) (unhide HMF) (unhide HNE).1 (unhide HNE).2.1
                  exact bodyPost_ret (h1.result rfl _ rfl) rfl (by rw [unhide HPP, unhide HEQ]; exact h2)
          | false =>
            cases hk5 : isS T 2 [66, 69, 84, 87, 69, 69, 78] S1 with
            | true =>
              skip
              as_aux_lemma =>
                have HT3 := HTG
                have HW1 := hide hi
                have MHW1 : Hid (mayS T 2 [73, 83] S1 = S1) := by show mayS T 2 [73, 83] S1 = _; unfold mayS; rw [hi]; rfl
                have HW2 := hide hj
                have MHW2 : Hid (mayS T 2 [78, 79, 84] S1 = S1) := by show mayS T 2 [78, 79, 84] S1 = _; unfold mayS; rw [hj]; rfl
                have HW3 := hide hk3
                have MHW3 : Hid (mayS T 2 [73, 78] S1 = S1) := by show mayS T 2 [73, 78] S1 = _; unfold mayS; rw [hk3]; rfl
                have HW4 := hide hk5
                have MHW4 : Hid (mayS T 2 [66, 69, 84, 87, 69, 69, 78] S1 = nextS T S1) := by show mayS T 2 [66, 69, 84, 87, 69, 69, 78] S1 = _; unfold mayS; rw [hk5]; rfl
                have HEQ : Hid (testS T sub3 sub7 n S = ((binE 17 (binE 10 a (sub3 (nextS T S1)).1) (binE 8 a (sub3 (mustS T 2 [65, 78, 68] (sub3 (nextS T S1)).2)).1)), (sub3 (mustS T 2 [65, 78, 68] (sub3 (nextS T S1)).2)).2)) := by
                  show testS T sub3 sub7 n S = _
                  rw [unhide HEN]
                  unfold testN
                  rw [if_neg (by rw [hi]; decide)]
                  dsimp only
                  rw [unhide MHW2, hj, hk3, hk5]
                  rfl
                have HB7 : Hid (muS T (nextS T S1) ≤ B) := by
                  have h1 := muS_nle T S1
                  have h2 := muS_nle T S1
                  have h3 := unhide HM1
                  have h4 := unhide HMU
                  show _ ≤ _
                  omega
                clear hi hj hk3 hk5 HTG HEN
                go_upto_region 21 with (first | (go_at_call 150; refine (may_any hT (unhide HT3).rv.px [73, 83]).mono ?_; rw [unhide HW1]; rintro e w4 ⟨rfl, hp1, hf1⟩; rw [unhide MHW1] at hp1; have HT4 := hide ((unhide HT3).move hp1 hf1 (unhide HNE).2.2); clear hp1 hf1 HT3) | (go_at_call 150; refine (may_any hT (unhide HT4).rv.px [78, 79, 84]).mono ?_; rw [unhide HW2]; rintro e w5 ⟨rfl, hp1, hf1⟩; rw [unhide MHW2] at hp1; have HT5 := hide ((unhide HT4).move hp1 hf1 (unhide HNE).2.2); clear hp1 hf1 HT4) | (go_at_call 150; refine (may_any hT (unhide HT5).rv.px [73, 78]).mono ?_; rw [unhide HW3]; rintro e w6 ⟨rfl, hp1, hf1⟩; rw [unhide MHW3] at hp1; have HT6 := hide ((unhide HT5).move hp1 hf1 (unhide HNE).2.2); clear hp1 hf1 HT5) | (go_at_call 150; refine (may_any hT (unhide HT6).rv.px [66, 69, 84, 87, 69, 69, 78]).mono ?_; rw [unhide HW4]; rintro e w7 ⟨rfl, hp1, hf1⟩; rw [unhide MHW4] at hp1; have HT7 := hide ((unhide HT6).move hp1 hf1 (unhide HNE).2.2); clear hp1 hf1 HT6) | (go_at_call 225; refine ((unhide HT7).rv.call h3 (unhide HB7) (unhide HNE).2.2).mono ?_; rintro e w8 ⟨L, rfl, hx, hv, hf, hm⟩; have hlL := hx.len; have HXL := hide (hx.keep (Q' := fun b => w.heap.size < b ∧ b ≠ b3) (fun _ _ _ => rfl) (fun b _ q => by have h1 := ltX (unhide HT7).va.1; have h2 := (unhide HT7).b3b; exact ⟨by omega, by omega⟩)); have HT8 := hide ((unhide HT7).moveR hv hf (unhide HNE).2.2); have HML := hide hm; have HFL := hide hf; have hstL := hv.out.storeC hx.len hx.one; have hsnL := storeNew w8 hx.len hx.one; unfold zL at hsnL; clear hx hv hf hm))
                have HT9 := hide ((unhide HT8).below (alX (Below.refl _ _) (.cells L.toArray 29)))
                have HVL := hide (VrX.new w8 hlL)
                have HXLn := hide ((unhide HXL).below (alX (Below.refl _ _) (.cells L.toArray 29)))
                have HFAL := hide (FrX.of_below (p := p) (alX (Below.refl _ _) (.cells L.toArray 29) : Below w8.heap.size w8 _))
                have hloL := Nat.lt_trans (unhide HT8).b3b (ltX (unhide HT8).va.1)
                have hneL := Nat.ne_of_gt (ltX (unhide HT8).va.1)
                obtain ⟨w9, hw9⟩ : ∃ w9, w9 = w8.alloc (.cells L.toArray 29) := ⟨_, rfl⟩
                obtain ⟨bL, hbL⟩ : ∃ bL, bL = w8.heap.size := ⟨_, rfl⟩
                rw [← hw9] at HT9 HXLn HFAL
                rw [← hw9, ← hbL] at HVL
                rw [← hbL] at hloL hneL
                rw [← hw9, ← hbL]
                clear hstL hsnL hw9 hbL
                have HB10 : Hid (muS T (mustS T 2 [65, 78, 68] (sub3 (nextS T S1)).2) ≤ B) := by
                  have h1 := muS_must T 2 [65, 78, 68] (sub3 (nextS T S1)).2
                  have h2 := unhide HML
                  have h3 := unhide HB7
                  show _ ≤ _
                  omega
                go_upto_region 23 with (first | (go_at_call 153; refine (must_any hT (unhide HT9).rv.px [65, 78, 68]).mono ?_; rintro e w10 ⟨rfl, hp1, hf1⟩; have HVL10 := hide ((unhide HVL).keep (hf1.blk bL (ltX (unhide HVL).1) (by have := (unhide HNE).2.2; omega))); have HXL10 := hide ((unhide HXLn).keep (fun b hq hl => hf1.blk b hl (by have := (unhide HNE).2.2; have := hq.1; omega)) (fun _ _ h => h)); have HT10 := hide ((unhide HT9).move hp1 hf1 (unhide HNE).2.2); clear hp1 hf1 HT9) | (go_at_call 225; refine ((unhide HT10).rv.call h3 (unhide HB10) (unhide HNE).2.2).mono ?_; rintro e w11 ⟨H, rfl, hx, hv, hf, hm⟩; have hlH := hx.len; have HXH := hide (hx.keep (Q' := fun b => w.heap.size < b ∧ b ≠ b3) (fun _ _ _ => rfl) (fun b _ q => by have h1 := ltX (unhide HT10).va.1; have h2 := (unhide HT10).b3b; exact ⟨by omega, by omega⟩)); have HT11 := hide ((unhide HT10).moveR hv hf (unhide HNE).2.2); have HMH := hide hm; have HFH := hide hf; have hstH := hv.out.storeC hx.len hx.one; have hsnH := storeNew w11 hx.len hx.one; unfold zL at hsnH; clear hx hv hf hm))
                have HT12 := hide ((unhide HT11).below (alX (Below.refl _ _) (.cells H.toArray 29)))
                have HVH := hide (VrX.new w11 hlH)
                have HXHn := hide ((unhide HXH).below (alX (Below.refl _ _) (.cells H.toArray 29)))
                have HFAH := hide (FrX.of_below (p := p) (alX (Below.refl _ _) (.cells H.toArray 29) : Below w11.heap.size w11 _))
                have hloH := Nat.lt_trans (unhide HT11).b3b (ltX (unhide HT11).va.1)
                have hneH := Nat.ne_of_gt (ltX (unhide HT11).va.1)
                obtain ⟨w12, hw12⟩ : ∃ w12, w12 = w11.alloc (.cells H.toArray 29) := ⟨_, rfl⟩
                obtain ⟨bH, hbH⟩ : ∃ bH, bH = w11.heap.size := ⟨_, rfl⟩
                rw [← hw12] at HT12 HXHn HFAH
                rw [← hw12, ← hbH] at HVH
                rw [← hbH] at hloH hneH
                rw [← hw12, ← hbH]
                clear hstH hsnH hw12 hbH
                have HF12 := hide (((unhide HFH).trans (unhide HFAH)).drew)
                have HVL12 : Hid (VrX w12.drew bL L) := (unhide HVL10).keep ((unhide HF12).blk bL (ltX (unhide HVL10).1) (by have := (unhide HNE).2.2; omega))
                have HXL12 : Hid (ExM w12.drew (fun b => w.heap.size < b ∧ b ≠ b3) L (sub3 (nextS T S1)).1) := (unhide HXL10).keep (fun b hq hl => (unhide HF12).blk b hl (by have := (unhide HNE).2.2; have := hq.1; omega)) (fun _ _ h => h)
                have HVH12 : Hid (VrX w12.drew bH H) := unhide HVH
                have HXH12 : Hid (ExM w12.drew (fun b => w.heap.size < b ∧ b ≠ b3) H (sub3 (mustS T 2 [65, 78, 68] (sub3 (nextS T S1)).2)).1) := (unhide HXHn).below (Below.refl _ _).drew
                have HT13 : Hid (TS T p bt c w.heap.size b3 w w12.drew (sub3 (mustS T 2 [65, 78, 68] (sub3 (nextS T S1)).2)).2 M a) := (unhide HT12).drew
                refine wp_region_last 7 (fun w' => VrX w' b3 M ∧ VrX w' bL L ∧ VrX w' bH H) (by kernel_rfl) ⟨(unhide HT13).va, unhide HVL12, unhide HVH12⟩ (fun hHeld => ?_)
                refine last_to (i := 0) (d := 61) (v := .agg M.toArray) rfl rfl (by kernel_rfl) (by kernel_rfl) (by kernel_rfl) (by kernel_rfl) (by decide) (fun _ _ _ h => h) (yieldsIf_load_mid (by rfl) 29 (.tmp 3) rfl b3 0 rfl M _ (fun w hw => hw.1.range) Tryz.underlying29 rfl (by rw [hlM]; exact sizeEx)) hHeld ?_
                simp only [Act.put, sA, sB, sC]
                refine last_to (i := 1) (d := 62) (v := .agg L.toArray) rfl rfl (by kernel_rfl) (by kernel_rfl) (by kernel_rfl) (by kernel_rfl) (by decide) (fun _ _ _ h => h) (yieldsIf_load_mid (by rfl) 29 (.tmp 8) rfl bL 0 rfl L _ (fun w hw => hw.2.1.range) Tryz.underlying29 rfl (by rw [hlL]; exact sizeEx)) hHeld ?_
                simp only [Act.put, sA, sB, sC]
                refine last_to (i := 3) (d := 64) (v := .agg M.toArray) rfl rfl (by kernel_rfl) (by kernel_rfl) (by kernel_rfl) (by kernel_rfl) (by decide) (fun _ _ _ h => h) (yieldsIf_load_mid (by rfl) 29 (.tmp 3) rfl b3 0 rfl M _ (fun w hw => hw.1.range) Tryz.underlying29 rfl (by rw [hlM]; exact sizeEx)) hHeld ?_
                simp only [Act.put, sA, sB, sC]
                refine last_to (i := 4) (d := 65) (v := .agg H.toArray) rfl rfl (by kernel_rfl) (by kernel_rfl) (by kernel_rfl) (by kernel_rfl) (by decide) (fun _ _ _ h => h) (yieldsIf_load_mid (by rfl) 29 (.tmp 9) rfl bH 0 rfl H _ (fun w hw => hw.2.2.range) Tryz.underlying29 rfl (by rw [hlH]; exact sizeEx)) hHeld ?_
                simp only [Act.put, sA, sB, sC]
                refine last_one (i := 2) (by kernel_rfl) rfl (fun K hK => ?_)
                go_simp
                (go_at_call 190; refine (binary_any 10 M L a _ (fun b => w.heap.size < b ∧ b ≠ b3) _ ((unhide HT13).ex) (unhide HXL12)).mono ?_; rintro e w14 ⟨R1, rfl, hx6, hb6⟩; have HR1 := hide (hx6.keep (Q' := (fun b => w.heap.size < b ∧ b ≠ b3)) (fun _ _ _ => rfl) (fun b _ q => by rcases q with q | q; (exact q); (have h1 := ltX (unhide HT13).va.1; have h2 := (unhide HT13).b3b; exact ⟨by omega, by omega⟩))); have HT14 := hide ((unhide HT13).below hb6); have hlR1 := hx6.len; have HVL14 := hide ((unhide HVL12).below hb6); have HVH14 := hide ((unhide HVH12).below hb6); have HXH14 := hide ((unhide HXH12).below hb6); clear hx6 hb6)
                go_wp2_with fail
                refine hK.out _ _ (fun _ => ⟨(unhide HT14).va, unhide HVL14, unhide HVH14⟩) (fun hHeld2 => ?_)
                clear hK K hHeld
                have hHeld := hHeld2 (by decide)
                clear hHeld2
                try simp only [Act.put, sA, sB, sC]
                refine last_one (i := 5) (by kernel_rfl) rfl (fun K hK => ?_)
                go_simp
                (go_at_call 190; refine (binary_any 8 M H a _ (fun b => w.heap.size < b ∧ b ≠ b3) _ ((unhide HT14).ex) (unhide HXH14)).mono ?_; rintro e w15 ⟨R2, rfl, hx6, hb6⟩; have HR2 := hide (hx6.keep (Q' := (fun b => w.heap.size < b ∧ b ≠ b3)) (fun _ _ _ => rfl) (fun b _ q => by rcases q with q | q; (exact q); (have h1 := ltX (unhide HT14).va.1; have h2 := (unhide HT14).b3b; exact ⟨by omega, by omega⟩))); have HT15 := hide ((unhide HT14).below hb6); have hlR2 := hx6.len; have HVL15 := hide ((unhide HVL14).below hb6); have HVH15 := hide ((unhide HVH14).below hb6); have HR1n := hide ((unhide HR1).below hb6); clear hx6 hb6)
                go_wp2_with fail
                refine hK.out _ _ (fun _ => ⟨(unhide HT15).va, unhide HVL15, unhide HVH15⟩) (fun hHeld2 => ?_)
                clear hK K hHeld
                have hHeld := hHeld2 (by decide)
                clear hHeld2
                try simp only [Act.put, sA, sB, sC]
                refine last_one (i := 6) (by kernel_rfl) rfl (fun K hK => ?_)
                go_simp
                (go_at_call 190; refine (binary_any 17 R1 R2 _ _ (fun b => w.heap.size < b ∧ b ≠ b3) _ ((unhide HR1n)) (unhide HR2)).mono ?_; rintro e w16 ⟨R3, rfl, hx6, hb6⟩; have HR3 := hide (hx6.keep (Q' := (fun b => w.heap.size < b ∧ b ≠ b3)) (fun _ _ _ => rfl) (fun b _ q => by rcases q with q | q; (exact q); (have h1 := ltX (unhide HT15).va.1; have h2 := (unhide HT15).b3b; exact ⟨by omega, by omega⟩))); have HT16 := hide ((unhide HT15).below hb6); have hlR3 := hx6.len; have HVL16 := hide ((unhide HVL15).below hb6); have HVH16 := hide ((unhide HVH15).below hb6); clear hx6 hb6)
                go_wp2_with fail
                refine hK.out _ _ (fun _ => ⟨(unhide HT16).va, unhide HVL16, unhide HVH16⟩) (fun hHeld2 => ?_)
                clear hK K hHeld
                have hHeld := hHeld2 (by decide)
                clear hHeld2
                try simp only [Act.put, sA, sB, sC]
                refine last_one (i := 7) (by kernel_rfl) rfl (fun K hK => ?_)
                have hz10 : R3.toArray.size = 10 := by simpa using (unhide HR3).len
                rw [if_pos (by rfl)]
                refine wp_store_mid 29 (.tmp 3) (.tmp 67) rfl b3 0 R3.toArray rfl rfl (by rw [hz10]; exact (unhide HT16).va.there) (by rw [hz10]; exact sizeEx) (all_oneCell_toArray (unhide HR3).one) ?_
                refine hK.out _ _ (fun h => absurd rfl h) (fun _ => ?_)
                clear hK K hHeld
                try simp only [Act.put, sA, sB, sC]
                refine last_done (by kernel_rfl) ?_ _
                have HT17 := hide ((unhide HT16).set (unhide HR3) (by have h1 := (unhide HT16).b3b; have h2 := unhide HBT; omega))
                have HMF : Hid (muS T (sub3 (mustS T 2 [65, 78, 68] (sub3 (nextS T S1)).2)).2 ≤ muS T S) := by
                  have h1 := unhide HMH
                  have h2 := muS_must T 2 [65, 78, 68] (sub3 (nextS T S1)).2
                  have h3 := unhide HML
                  have h4 := muS_nle T S1
                  have h5 := muS_nle T S1
                  have h6 := unhide HM1
                  show _ ≤ _
                  omega
                obtain ⟨w17, hw17⟩ : ∃ w17, w17 = w16.setCells b3 0 R3 := ⟨_, rfl⟩
                rw [← hw17] at HT17
                rw [← hw17]
                clear hw17
                go_upto_region 28 with fail
                have hst := (unhide HT17).rv.out.storeC hlR3 (unhide HT17).ex.one
                refine wp_region_list ?_
                refine wpList_load_mid rfl 29 (.tmp 3) rfl b3 0 rfl R3 _ (unhide HT17).va.range Tryz.underlying29 rfl (by rw [hlR3]; exact sizeEx) ?_
                go_wp2_with fail
                have HX : Hid (ExM w17 (fun b => w.heap.size < b) R3 (binE 17 (binE 10 a (sub3 (nextS T S1)).1) (binE 8 a (sub3 (mustS T 2 [65, 78, 68] (sub3 (nextS T S1)).2)).1))) := (unhide HT17).ex.keep (fun _ _ _ => rfl) (fun b _ q => q.1)
                have HV17 := hide (unhide HT17).rv
                obtain ⟨h1, h2⟩ := (unhide HV17).done (S0 := S) (unhide HX) (unhide HMF) (unhide HNE).1 (unhide HNE).2.1
                exact bodyPost_ret (h1.result rfl _ rfl) rfl (by rw [unhide HPP, unhide HEQ]; exact h2)
            | false =>
              skip
              as_aux_lemma =>
                have HT3 := HTG
                have HW1 := hide hi
                have MHW1 : Hid (mayS T 2 [73, 83] S1 = S1) := by show mayS T 2 [73, 83] S1 = _; unfold mayS; rw [hi]; rfl
                have HW2 := hide hj
                have MHW2 : Hid (mayS T 2 [78, 79, 84] S1 = S1) := by show mayS T 2 [78, 79, 84] S1 = _; unfold mayS; rw [hj]; rfl
                have HW3 := hide hk3
                have MHW3 : Hid (mayS T 2 [73, 78] S1 = S1) := by show mayS T 2 [73, 78] S1 = _; unfold mayS; rw [hk3]; rfl
                have HW4 := hide hk5
                have MHW4 : Hid (mayS T 2 [66, 69, 84, 87, 69, 69, 78] S1 = S1) := by show mayS T 2 [66, 69, 84, 87, 69, 69, 78] S1 = _; unfold mayS; rw [hk5]; rfl
                have HEQ : Hid (testS T sub3 sub7 n S = (a, S1)) := by
                  show testS T sub3 sub7 n S = _
                  rw [unhide HEN]
                  unfold testN
                  rw [if_neg (by rw [hi]; decide)]
                  dsimp only
                  rw [unhide MHW2, hj, hk3, hk5]
                  rfl
                have HMF : Hid (muS T S1 ≤ muS T S) := HM1
                clear hi hj hk3 hk5 HTG HEN
                go_upto_region 28 with (first | (go_at_call 150; refine (may_any hT (unhide HT3).rv.px [73, 83]).mono ?_; rw [unhide HW1]; rintro e w4 ⟨rfl, hp1, hf1⟩; rw [unhide MHW1] at hp1; have HT4 := hide ((unhide HT3).move hp1 hf1 (unhide HNE).2.2); clear hp1 hf1 HT3) | (go_at_call 150; refine (may_any hT (unhide HT4).rv.px [78, 79, 84]).mono ?_; rw [unhide HW2]; rintro e w5 ⟨rfl, hp1, hf1⟩; rw [unhide MHW2] at hp1; have HT5 := hide ((unhide HT4).move hp1 hf1 (unhide HNE).2.2); clear hp1 hf1 HT4) | (go_at_call 150; refine (may_any hT (unhide HT5).rv.px [73, 78]).mono ?_; rw [unhide HW3]; rintro e w6 ⟨rfl, hp1, hf1⟩; rw [unhide MHW3] at hp1; have HT6 := hide ((unhide HT5).move hp1 hf1 (unhide HNE).2.2); clear hp1 hf1 HT5) | (go_at_call 150; refine (may_any hT (unhide HT6).rv.px [66, 69, 84, 87, 69, 69, 78]).mono ?_; rw [unhide HW4]; rintro e w7 ⟨rfl, hp1, hf1⟩; rw [unhide MHW4] at hp1; have HT7 := hide ((unhide HT6).move hp1 hf1 (unhide HNE).2.2); clear hp1 hf1 HT6))
                have hst := (unhide HT7).rv.out.storeC hlM (unhide HT7).ex.one
                refine wp_region_list ?_
                refine wpList_load_mid rfl 29 (.tmp 3) rfl b3 0 rfl M _ (unhide HT7).va.range Tryz.underlying29 rfl (by rw [hlM]; exact sizeEx) ?_
                go_wp2_with fail
                have HX : Hid (ExM w7 (fun b => w.heap.size < b) M a) := (unhide HT7).ex.keep (fun _ _ _ => rfl) (fun b _ q => q.1)
                have HV7 := hide (unhide HT7).rv
                obtain ⟨h1, h2⟩ := (unhide HV7).done (S0 := S) (unhide HX) (unhide HMF) (unhide HNE).1 (unhide HNE).2.1
                exact bodyPost_ret (h1.result rfl _ rfl) rfl (by rw [unhide HPP, unhide HEQ]; exact h2)
end Go.Proofs.YtehgoioinogmkaaGreatDoor
