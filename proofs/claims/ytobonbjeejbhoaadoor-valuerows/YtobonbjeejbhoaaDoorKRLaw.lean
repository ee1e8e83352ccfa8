/- ValueRows: its walk. -/
import Derived.Test.YtobonbjeejbhoaaDoorKRefKey
import Derived.Test.YtobonbjeejbhoaaDoorKRefRows
import Derived.Test.YtobonbjeejbhoaaDoorKRefUn
namespace Go.Proofs.YtobonbjeejbhoaaDoor
open Go.RowKit Go.Lib

/-- Bytes, whatever their length. -/
def RBu (w : World) (B : Nat) (v : Value) (l : List UInt8) : Prop :=
  (v = .slice none 0 0 ∧ l = []) ∨ ∃ b off cap, b < B ∧ l.length ≤ cap ∧ cap ≤ maxLen ∧ v = .slice (some ⟨b, off, none⟩) l.length cap ∧ ∀ i, i < l.length → w.cell? ⟨b, off + i, none⟩ = some (.int .u8 ((l.getD i 0).toNat : Int))
theorem RBu.rb {w : World} {B : Nat} {v : Value} {l : List UInt8} (h : RBu w B v l) (hl : l.length ≤ 1000) : RBp w B v l := ⟨by omega, h⟩
theorem unG_ok : ∀ (f : Nat) (done : List GV) (l : List UInt8) (gs : List GV), unG f done l = some gs → l.length ≤ 1000 → (∀ g ∈ done, g.ok) → done.length ≤ 16 → (∀ g ∈ gs, g.ok) ∧ gs.length ≤ 16
  | 0, done, l, gs, h, _, hd, hn => by
    unfold unG at h
    split at h
    · injection h with h; subst h; exact ⟨hd, hn⟩
    · cases h
  | f + 1, done, l, gs, h, hl, hd, hn => by
    unfold unG at h
    split at h
    · injection h with h; subst h; exact ⟨hd, hn⟩
    · split at h
      · cases h
      · rename_i hz
        split at h
        · refine unG_ok f _ _ gs h (by simp; omega) (fun g hg => ?_) (by simp; omega)
          rcases List.mem_append.1 hg with hg | hg
          · exact hd g hg
          · simp at hg
            subst hg
            exact val_ok (by simp; omega) (fit_take (by omega))
        · cases h
theorem bytes_same {w : World} {v v' : Value} {B B' : Nat} {l : List UInt8} (h : RBp w B v l) (h' : RBp w B' v' l) : Calls Tryd.prog 13 #[v, v'] w fun e w' => e = .returned (.bool true) ∧ w' = w := by
  have c1 := conv_any _ _ _ _ h
  have c2 := conv_any _ _ _ _ h'
  clear h h'
  go_enter Tryd.func13, Tryd.ntmps13
  go_wp2
  go_ret
  exact ⟨rfl, rfl⟩
theorem rva_nil (w : World) (B : Nat) : RVa w B none [] := ⟨by simp [maxLen], by simp, fun h => absurd rfl h⟩
theorem rb_nil (w : World) (B : Nat) : RBp w B (.slice none 0 0) [] := ⟨by simp, .inl ⟨rfl, rfl⟩⟩
theorem rb_up {w : World} {B B' : Nat} {v : Value} {l : List UInt8} (h : RBp w B v l) (hB : B ≤ B') : RBp w B' v l := by
  obtain ⟨h1, h2 | ⟨b, off, cap, hbB, h3⟩⟩ := h
  · exact ⟨h1, .inl h2⟩
  · exact ⟨h1, .inr ⟨b, off, cap, by omega, h3⟩⟩
theorem rb_after {w w' : World} {v : Value} {l : List UInt8} (h : RBp w w.heap.size v l) (hb : Below w.heap.size w w') : RBp w' w'.heap.size v l := rb_up (h.below hb (Nat.le_refl _)) hb.size

set_option maxHeartbeats 12800000 in
set_option maxRecDepth 100000 in
theorem rows_walk2 (cls : Int) (ce : Value) (hce : ce = errG cls) (X : List UInt8) (R : Int) (w : World) {ad bd kd : Option Addr} {ca cb kk : Nat} {a b : List GV} {l : List UInt8} (_lk : (l.length : Int) ≤ 9223372036854775807)
    (HK : Hid (Calls Tryd.prog 5 #[] w fun e w' => e = .returned (.bool true) ∧ Below w.heap.size w w'))
    (HFA : Hid (∀ W : World, Below w.heap.size w W → Calls Tryd.prog 6 #[.slice ad a.length ca, .int .i64 ((20 : Nat) : Int)] W fun e w' => e = .returned (.bool true) ∧ w' = W))
    (HFB : Hid (∀ W : World, Below w.heap.size w W → Calls Tryd.prog 6 #[.slice bd b.length cb, .int .i64 ((20 : Nat) : Int)] W fun e w' => e = .returned (.bool true) ∧ w' = W))
    (HKA : Hid (∀ W : World, Below w.heap.size w W → Calls Tryd.prog 7 #[.slice ad a.length ca] W fun e w' => KeyPost a W e w'))
    (HKR : Hid (∀ W : World, Below w.heap.size w W → Calls Tryd.prog 8 #[.slice ad a.length ca] W fun e w' => RKeyPost a W e w'))
    (HC : Hid (∀ (c : Int) (W : World), Below w.heap.size w W → Calls Tryd.prog 14 #[errG c] W fun e w' => e = .returned (.int .i64 c) ∧ Below W.heap.size W w'))
    (HRW : Hid (∀ W : World, Below w.heap.size w W → Calls Tryd.prog 11 #[.slice ad a.length ca, .slice bd b.length cb] W fun e w' => e = .returned (.int .i64 R) ∧ Below W.heap.size W w'))
    (HRR : Hid (∀ W : World, Below w.heap.size w W → Calls Tryd.prog 12 #[.slice ad a.length ca, .slice bd b.length cb] W fun e w' => e = .returned (.int .i64 R) ∧ Below W.heap.size W w'))
    (HUA : Hid (∀ W : World, Below w.heap.size w W → Calls Tryd.prog 9 #[.slice kd l.length kk] W fun e w' => UnPost (unG l.length [] l) W e w'))
    (HUR : Hid (∀ W : World, Below w.heap.size w W → Calls Tryd.prog 10 #[.slice kd l.length kk] W fun e w' => RUnPost (unG l.length [] l) W e w'))
    (hgs : ∀ gs, unG l.length [] l = some gs → l.length ≤ 1000 → (∀ g ∈ ([] : List GV), g.ok) → ([] : List GV).length ≤ 16 → (∀ g ∈ gs, g.ok) ∧ gs.length ≤ 16) (h500I : ((500 : Int) < (l.length : Int)) = False)
    (HA2 : Hid (∀ (W : World) (e : Ending) (W' : World), KeyPost a W e W' → Below W.heap.size W W' ∧ ∃ x k, e = .returned (.tuple #[.slice x X.length k, ce]) ∧ RBp W' W'.heap.size (.slice x X.length k) X))
    (HR2 : Hid (∀ (W : World) (e : Ending) (W' : World), RKeyPost a W e W' → Below W.heap.size W W' ∧ ∃ x k, e = .returned (.tuple #[.slice x X.length k, .int .i64 cls]) ∧ RBp W' W'.heap.size (.slice x X.length k) X)) :
    Calls Tryd.prog 3 #[.slice ad a.length ca, .slice bd b.length cb, .slice kd l.length kk] w fun e w' => e = .returned (.bool true) ∧ Below w.heap.size w w' := by
  have HC1 := hide (fun W hW => unhide HC cls W hW)
  rw [← hce] at HC1
  have hl5 : l.length ≤ 500 := by
    have : ¬ ((500 : Int) < (l.length : Int)) := by rw [h500I]; exact id
    omega
  cases hU : unG l.length [] l with
  | some gs =>
    obtain ⟨hok, h16⟩ := hgs gs hU (by omega) (by simp) (by simp)
    rw [hU] at HUA HUR
    have HC3 := hide (fun W hW => unhide HC 0 W hW)
    rw [errG_nil] at HC3
    have HOK := hide hok
    clear hgs hU hok HC hce
    go_enter Tryd.func3, Tryd.ntmps3
    go_wp2_with (first
      | (go_at_call 5; refine (unhide HK).mono ?_; clear HK; rintro e w1 ⟨rfl, hb1⟩)
      | (go_at_call 6; refine (unhide HFA _ hb1).mono ?_; clear HFA; rintro e w0 ⟨rfl, rfl⟩)
      | (go_at_call 6; refine (unhide HFB _ hb1).mono ?_; clear HFB; rintro e w0 ⟨rfl, rfl⟩)
      | (go_at_call 7; refine (unhide HKA _ hb1).mono ?_; clear HKA; intro e w2 hk2; obtain ⟨hb2, xa, xk, rfl, hx2⟩ := unhide HA2 _ e w2 hk2; have Q2 := hide (one_step hb1 hb2); have HX2 := hide hx2; clear hk2 hx2 HA2)
      | (go_at_call 8; refine (unhide HKR _ (unhide Q2)).mono ?_; clear HKR; intro e w3 hk3; obtain ⟨hb3, ya, yk, rfl, hy3⟩ := unhide HR2 _ e w3 hk3; have Q3 := hide (one_step (unhide Q2) hb3); have HX3 := hide (rb_after (unhide HX2) hb3); have HY3 := hide hy3; clear hk3 hy3 HR2 HX2)
      | (go_at_call 9; refine (unhide HUA _ (unhide Q3)).mono ?_; clear HUA; rintro e w4 ⟨hb4, la, lk', rfl, ho4⟩; have HL4 := hide ho4; have Q4 := hide (one_step (unhide Q3) hb4); have HX4 := hide (rb_after (unhide HX3) hb4); have HY4 := hide (rb_after (unhide HY3) hb4))
      | (go_at_call 10; refine (unhide HUR _ (unhide Q4)).mono ?_; clear HUR; rintro e w5 ⟨hb5, ma, mk, rfl, ho5⟩; have HM5 := hide ho5; have HL5 := hide (own_later (unhide HL4) hb5); have Q5 := hide (one_step (unhide Q4) hb5); have HX5 := hide (rb_after (unhide HX4) hb5); have HY5 := hide (rb_after (unhide HY4) hb5))
      | (go_at_call 11; refine (unhide HRW _ (unhide Q5)).mono ?_; clear HRW; rintro e w6 ⟨rfl, hb6⟩; have Q6 := hide (one_step (unhide Q5) hb6); have HX6 := hide (rb_after (unhide HX5) hb6); have HY6 := hide (rb_after (unhide HY5) hb6); have HL6 := hide (own_later (unhide HL5) hb6); have HM6 := hide (own_later (unhide HM5) hb6))
      | (go_at_call 12; refine (unhide HRR _ (unhide Q6)).mono ?_; clear HRR; rintro e w7 ⟨rfl, hb7⟩; have Q7 := hide (one_step (unhide Q6) hb7); have HX7 := hide (rb_after (unhide HX6) hb7); have HY7 := hide (rb_after (unhide HY6) hb7); have HL7 := hide (own_later (unhide HL6) hb7); have HM7 := hide (own_later (unhide HM6) hb7))
      | (go_at_call 13; refine (bytes_same (unhide HX7) (unhide HY7)).mono ?_; rintro e w0 ⟨rfl, rfl⟩)
      | (go_at_call 14; refine (unhide HC1 _ (unhide Q7)).mono ?_; clear HC1; rintro e w8 ⟨rfl, hb8⟩; have Q8 := hide (one_step (unhide Q7) hb8); have HL8 := hide (own_later (unhide HL7) hb8); have HM8 := hide (own_later (unhide HM7) hb8))
      | (go_at_call 15; refine (values_same _ _ _ _ _ gs _ (own_rva (unhide HL8) (unhide HOK) (by omega)) (own_rva (unhide HM8) (unhide HOK) (by omega))).mono ?_; rintro e w9 ⟨rfl, hb9⟩; have Q9 := hide (one_step (unhide Q8) hb9))
      | (go_at_call 14; refine (unhide HC3 _ (unhide Q9)).mono ?_; clear HC3; rintro e w10 ⟨rfl, hb10⟩; have Q10 := hide (one_step (unhide Q9) hb10)))
    go_ret
    exact ⟨rfl, unhide Q10⟩
  | none =>
    rw [hU] at HUA HUR
    have HC3 := hide (fun W hW => unhide HC 20 W hW)
    rw [errG_some (by decide)] at HC3
    clear hgs hU HC hce
    go_enter Tryd.func3, Tryd.ntmps3
    go_wp2_with (first
      | (go_at_call 5; refine (unhide HK).mono ?_; clear HK; rintro e w1 ⟨rfl, hb1⟩)
      | (go_at_call 6; refine (unhide HFA _ hb1).mono ?_; clear HFA; rintro e w0 ⟨rfl, rfl⟩)
      | (go_at_call 6; refine (unhide HFB _ hb1).mono ?_; clear HFB; rintro e w0 ⟨rfl, rfl⟩)
      | (go_at_call 7; refine (unhide HKA _ hb1).mono ?_; clear HKA; intro e w2 hk2; obtain ⟨hb2, xa, xk, rfl, hx2⟩ := unhide HA2 _ e w2 hk2; have Q2 := hide (one_step hb1 hb2); have HX2 := hide hx2; clear hk2 hx2 HA2)
      | (go_at_call 8; refine (unhide HKR _ (unhide Q2)).mono ?_; clear HKR; intro e w3 hk3; obtain ⟨hb3, ya, yk, rfl, hy3⟩ := unhide HR2 _ e w3 hk3; have Q3 := hide (one_step (unhide Q2) hb3); have HX3 := hide (rb_after (unhide HX2) hb3); have HY3 := hide hy3; clear hk3 hy3 HR2 HX2)
      | (go_at_call 9; refine (unhide HUA _ (unhide Q3)).mono ?_; clear HUA; rintro e w4 ⟨hb4, rfl⟩; have Q4 := hide (one_step (unhide Q3) hb4); have HX4 := hide (rb_after (unhide HX3) hb4); have HY4 := hide (rb_after (unhide HY3) hb4))
      | (go_at_call 10; refine (unhide HUR _ (unhide Q4)).mono ?_; clear HUR; rintro e w5 ⟨hb5, rfl⟩; have Q5 := hide (one_step (unhide Q4) hb5); have HX5 := hide (rb_after (unhide HX4) hb5); have HY5 := hide (rb_after (unhide HY4) hb5))
      | (go_at_call 11; refine (unhide HRW _ (unhide Q5)).mono ?_; clear HRW; rintro e w6 ⟨rfl, hb6⟩; have Q6 := hide (one_step (unhide Q5) hb6); have HX6 := hide (rb_after (unhide HX5) hb6); have HY6 := hide (rb_after (unhide HY5) hb6))
      | (go_at_call 12; refine (unhide HRR _ (unhide Q6)).mono ?_; clear HRR; rintro e w7 ⟨rfl, hb7⟩; have Q7 := hide (one_step (unhide Q6) hb7); have HX7 := hide (rb_after (unhide HX6) hb7); have HY7 := hide (rb_after (unhide HY6) hb7))
      | (go_at_call 13; refine (bytes_same (unhide HX7) (unhide HY7)).mono ?_; rintro e w0 ⟨rfl, rfl⟩)
      | (go_at_call 14; refine (unhide HC1 _ (unhide Q7)).mono ?_; clear HC1; rintro e w8 ⟨rfl, hb8⟩; have Q8 := hide (one_step (unhide Q7) hb8))
      | (go_at_call 15; refine (values_same none none 0 0 w8.heap.size [] w8 (rva_nil _ _) (rva_nil _ _)).mono ?_; rintro e w9 ⟨rfl, hb9⟩; have Q9 := hide (one_step (unhide Q8) hb9))
      | (go_at_call 14; refine (unhide HC3 _ (unhide Q9)).mono ?_; clear HC3; rintro e w10 ⟨rfl, hb10⟩; have Q10 := hide (one_step (unhide Q9) hb10)))
    go_ret
    exact ⟨rfl, unhide Q10⟩

set_option maxHeartbeats 12800000 in
set_option maxRecDepth 100000 in
theorem rows_law (va vb : Value) (a b : List GV) (kd : Option Addr) (kk : Nat) (l : List UInt8) (w : World) (hE : ET w) (ha : RVu w w.heap.size va a) (hb : RVu w w.heap.size vb b) (hk : RBu w w.heap.size (.slice kd l.length kk) l) (hkl : l.length ≤ maxLen) :
    Calls Tryd.prog 3 #[va, vb, .slice kd l.length kk] w fun e w' => e = .returned (.bool true) ∧ Below w.heap.size w w' := by
  have HK := hide (known_any w hE)
  have HRA := hide ha
  have HRB := hide hb
  obtain ⟨ad, ca, rfl, ha'⟩ := ha.rva
  obtain ⟨bd, cb, rfl, hb'⟩ := hb.rva
  have lk : (l.length : Int) ≤ 9223372036854775807 := by unfold maxLen at hkl; omega
  have HFA := hide (fun (W : World) (hW : Below w.heap.size w W) => few_any _ _ a 20 W ((unhide HRA).later hW hW.size))
  have HFB := hide (fun (W : World) (hW : Below w.heap.size w W) => few_any _ _ b 20 W ((unhide HRB).later hW hW.size))
  have HKA := hide (fun (W : World) (hW : Below w.heap.size w W) => key_any _ a W ((unhide HRA).later hW hW.size))
  have HKR := hide (fun (W : World) (hW : Below w.heap.size w W) => rkey_any _ a W ((unhide HRA).later hW hW.size))
  have HC := hide (fun (c : Int) (W : World) (hW : Below w.heap.size w W) => class_g c W (hE.below hW hE.lt))
  have HRW := hide (fun (W : World) (hW : Below w.heap.size w W) => vrows_any ad bd ca cb a b W (ha'.later hW hW.size) (hb'.later hW hW.size))
  have HRR := hide (fun (W : World) (hW : Below w.heap.size w W) => refRows_any ad bd ca cb a b W (ha'.later hW hW.size) (hb'.later hW hW.size))
  clear hE ha hb ha' hb' HRA HRB
  by_cases fa : fewG a 20 = true
  · rw [fa] at HFA
    by_cases fb : fewG b 20 = true
    · rw [fb] at HFB
      by_cases h500 : 500 < l.length
      · have h500I : (500 : Int) < (l.length : Int) := by omega
        clear fa fb HKA HKR HC HRW HRR hk h500
        go_enter Tryd.func3, Tryd.ntmps3
        go_wp2_with (first
          | (go_at_call 5; refine (unhide HK).mono ?_; clear HK; rintro e w1 ⟨rfl, hb1⟩)
          | (go_at_call 6; refine (unhide HFA _ hb1).mono ?_; clear HFA; rintro e w0 ⟨rfl, rfl⟩)
          | (go_at_call 6; refine (unhide HFB _ hb1).mono ?_; clear HFB; rintro e w0 ⟨rfl, rfl⟩))
        go_ret
        exact ⟨rfl, hb1⟩
      · have h500I : ((500 : Int) < (l.length : Int)) = False := by simp; omega
        have HKL := hide (show l.length ≤ 500 by omega)
        have HUA := hide (fun (W : World) (hW : Below w.heap.size w W) => unkey_any _ l W ((hk.rb (by omega)).below hW (Nat.le_refl _) |> fun r => (show RBp W W.heap.size _ l from rb_up r hW.size)) (by omega))
        have HUR := hide (fun (W : World) (hW : Below w.heap.size w W) => runkey_any _ l W ((hk.rb (by omega)).below hW (Nat.le_refl _) |> fun r => (show RBp W W.heap.size _ l from rb_up r hW.size)) (by omega))
        have hgs := unG_ok l.length [] l
        generalize rowsG a b = R at *
        clear fa fb hk h500
        by_cases good : a.length ≤ 16 ∧ ∀ g ∈ a, g.may = true
        · have hkn := keyG_len a good.2
          have HA2 := hide (fun (W : World) (e : Ending) (W' : World) (h : KeyPost a W e W') => show Below W.heap.size W W' ∧ ∃ x k, e = .returned (.tuple #[.slice x (keyG a).length k, errG 0]) ∧ RBp W' W'.heap.size (.slice x (keyG a).length k) (keyG a) from by
            obtain ⟨h1, ⟨_, _, x, k, h2, h3⟩ | ⟨h2 | ⟨g, hg, h3⟩, _⟩⟩ := h
            · exact ⟨h1, x, k, h2, rb_own h3 (by have := good.1; omega)⟩
            · have := good.1; omega
            · rw [good.2 g hg] at h3; cases h3)
          have HR2 := hide (fun (W : World) (e : Ending) (W' : World) (h : RKeyPost a W e W') => show Below W.heap.size W W' ∧ ∃ x k, e = .returned (.tuple #[.slice x (keyG a).length k, .int .i64 0]) ∧ RBp W' W'.heap.size (.slice x (keyG a).length k) (keyG a) from by
            obtain ⟨h1, ⟨_, _, x, k, h2, h3⟩ | ⟨h2 | ⟨g, hg, h3⟩, _⟩⟩ := h
            · exact ⟨h1, x, k, h2, rb_own h3 (by have := good.1; omega)⟩
            · have := good.1; omega
            · rw [good.2 g hg] at h3; cases h3)
          rw [errG_nil] at HA2
          generalize keyG a = X at *
          clear good hkn
          exact rows_walk2 0 .nilIface rfl X R w lk HK HFA HFB HKA HKR HC HRW HRR HUA HUR hgs h500I HA2 HR2
        · have HA2 := hide (fun (W : World) (e : Ending) (W' : World) (h : KeyPost a W e W') => show Below W.heap.size W W' ∧ ∃ x k, e = .returned (.tuple #[.slice x ([] : List UInt8).length k, .iface 48 (.int .i64 20)]) ∧ RBp W' W'.heap.size (.slice x ([] : List UInt8).length k) [] from by
            obtain ⟨h1, ⟨h2, h3, _⟩ | ⟨_, h2⟩⟩ := h
            · exact absurd ⟨h2, h3⟩ good
            · exact ⟨h1, none, 0, h2, rb_nil _ _⟩)
          have HR2 := hide (fun (W : World) (e : Ending) (W' : World) (h : RKeyPost a W e W') => show Below W.heap.size W W' ∧ ∃ x k, e = .returned (.tuple #[.slice x ([] : List UInt8).length k, .int .i64 20]) ∧ RBp W' W'.heap.size (.slice x ([] : List UInt8).length k) [] from by
            obtain ⟨h1, ⟨h2, h3, _⟩ | ⟨_, h2⟩⟩ := h
            · exact absurd ⟨h2, h3⟩ good
            · exact ⟨h1, none, 0, h2, rb_nil _ _⟩)
          clear good
          exact rows_walk2 20 (.iface 48 (.int .i64 20)) rfl [] R w lk HK HFA HFB HKA HKR HC HRW HRR HUA HUR hgs h500I HA2 HR2
    · rw [show fewG b 20 = false by simpa using fb] at HFB
      clear fa fb HKA HKR HC HRW HRR hk
      go_enter Tryd.func3, Tryd.ntmps3
      go_wp2_with (first
        | (go_at_call 5; refine (unhide HK).mono ?_; clear HK; rintro e w1 ⟨rfl, hb1⟩)
        | (go_at_call 6; refine (unhide HFA _ hb1).mono ?_; clear HFA; rintro e w0 ⟨rfl, rfl⟩)
        | (go_at_call 6; refine (unhide HFB _ hb1).mono ?_; clear HFB; rintro e w0 ⟨rfl, rfl⟩))
      go_ret
      exact ⟨rfl, hb1⟩
  · rw [show fewG a 20 = false by simpa using fa] at HFA
    clear fa HKA HKR HC HRW HRR hk HFB
    go_enter Tryd.func3, Tryd.ntmps3
    go_wp2_with (first
      | (go_at_call 5; refine (unhide HK).mono ?_; clear HK; rintro e w1 ⟨rfl, hb1⟩)
      | (go_at_call 6; refine (unhide HFA _ hb1).mono ?_; clear HFA; rintro e w0 ⟨rfl, rfl⟩))
    go_ret
    exact ⟨rfl, hb1⟩
end Go.Proofs.YtobonbjeejbhoaaDoor
