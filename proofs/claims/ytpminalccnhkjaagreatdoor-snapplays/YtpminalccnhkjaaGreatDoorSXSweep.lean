/- SnapPlays: sweep, done or cut off. -/
import Derived.Test.YtpminalccnhkjaaGreatDoorSXRep
namespace Go.Proofs.YtpminalccnhkjaaGreatDoor
open Go.RowKit Go.Lib

theorem keep_fs (o : Option Sn) : ∀ e ∈ FS o none, keepN o.isSome e.name = true := by
  intro e he
  cases o with
  | none => cases he
  | some s =>
    simp [FS] at he
    subst he
    show keepN true snN.data.toList = true
    unfold keepN
    simp [snN]
theorem pre_nw : preN nwN = true := by kernel_rfl
theorem pre_sn : preN snN = true := by kernel_rfl
theorem gop_below {w w1 w2 : World} {p : Nat} {S' : Dk.St} {F : List Dk.Ent} {O : Nat → Prop} (hb : Below w.heap.size w w1) (h : GoP w1 p S' F O w2) : GoP w p S' F O w2 := by
  obtain ⟨O', d, f, o⟩ := h
  exact ⟨O', d, (Dk.FrO.of_below hb).trans f (fun k _ hk => hk), fun k hk => (o k hk).elim .inl (fun hx => .inr (Nat.le_trans hb.size hx))⟩
theorem bad_below {w w1 w2 : World} {p n b : Nat} {o : Option Sn} {O : Nat → Prop} (hb : Below w.heap.size w w1) (h : BadP w1 p n o O b w2) : BadP w p n o O b w2 := by
  obtain ⟨S', g', O', h1, h2, h3, h4, d, f, o'⟩ := h
  exact ⟨S', g', O', h1, Nat.le_trans hb.size h2, h3, h4, d, (Dk.FrO.of_below hb).trans f (fun k _ hk => hk), fun k hk => (o' k hk).elim .inl (fun hx => .inr (Nat.le_trans hb.size hx))⟩
set_option maxHeartbeats 3200000 in
set_option maxRecDepth 100000 in
theorem sweep_none_go {w : World} {p n : Nat} {S : Dk.St} {O : Nat → Prop} (x : List UInt8 × Nat) (h : Dk.DX w p S (FS none (some x)) O) (hE : Dk.ET w) (hS : Okk S (n + 1)) (_hg : gOk (some x)) (q : ¬ Fails S) :
    Calls Tryz.prog 31 #[.pointer (some ⟨p, 0, none⟩), .bool false] w fun e w' => e = .returned .nilIface ∧ GoP w p (nx S) (FS none none) O w' := by
  have HR : Hid (∀ w1, Below w.heap.size w w1 → Calls Tryz.prog 48 #[.pointer (some ⟨p, 0, none⟩), .string nwN] w1 fun e w2 => e = .returned .nilIface ∧ Hid (GoP w p (nx S) (FS none none) O w2)) := by
    intro w1 hb
    refine (rm_go x (h.below hb) (hE.below hb hE.lt) hS q).mono ?_
    rintro e w2 ⟨O2, rfl, d, f, o2⟩
    exact ⟨rfl, gop_below hb ⟨O2, d, f, o2⟩⟩
  have HL : Hid (Calls Tryz.prog 33 #[.pointer (some ⟨p, 0, none⟩)] w fun e w1 => ∃ v, e = .returned v ∧ w1.ownsRow w.heap.size 9 1 v 1 (([nwN.data.toList] : List (List UInt8)).map encStr) ∧ Below w.heap.size w w1) := Dk.dx_list h
  unfold nwN at HR
  clear h hE hS q
  go_enter Tryz.func31, Tryz.ntmps31
  go_wp2_with (first
    | (go_at_call 33; refine (unhide HL).mono ?_; rintro e w1 ⟨v, rfl, hv, b1⟩; clear HL; obtain ⟨a, cap, rfl⟩ := Dk.own_sl hv; have HV := hide hv; have HB1 := hide b1; clear hv b1))
  go_loopw [11] (fun i wr => ∃ k : Nat, k ≤ 1 ∧ i = .int .i64 k ∧ ((k < 1 ∧ wr = w1) ∨ (k = 1 ∧ Hid (GoP w p (nx S) (FS none none) O wr)))) (fun i _ => 1 - (intOf i).toNat)
  case atStart => exact ⟨0, by omega, rfl, .inl ⟨by omega, rfl⟩⟩
  case round =>
    obtain ⟨k, hk, rfl, ⟨hlt, rfl⟩ | ⟨rfl, hd⟩⟩ := hrel
    · have hlt' : (k : Int) < 1 := by omega
      by_cases hl : k = 0
      · obtain ⟨g, rfl, hc⟩ := names_cell (unhide HV) k (by show k < 1; omega)
        subst hl
        replace hc : wr.cell? ⟨g, 0, none⟩ = some (.string ⟨#[115, 110, 97, 112, 46, 110, 101, 119]⟩) := hc
        have HP := hide (fun W => prefix_any nwN W (by decide))
        rw [pre_nw] at HP
        unfold nwN at HP
        clear HV
        go_wp2_with (first | (go_at_call 47; refine (unhide HP _).mono ?_; rintro e w2 ⟨rfl, rfl⟩) | (go_at_call 48; refine (unhide HR _ (unhide HB1)).mono ?_; rintro e w3 ⟨rfl, H3⟩))
        go_roundw
        case rel => exact ⟨1, by omega, by go_num, .inr ⟨rfl, H3⟩⟩
        case measure => simp [intOf]
      · omega
    · go_wp2
      go_ret
      exact ⟨rfl, unhide hd⟩
set_option maxHeartbeats 3200000 in
set_option maxRecDepth 100000 in
theorem sweep_none_cut {w : World} {p n : Nat} {S : Dk.St} {O : Nat → Prop} (x : List UInt8 × Nat) (h : Dk.DX w p S (FS none (some x)) O) (hE : Dk.ET w) (hS : Okk S (n + 1)) (hg : gOk (some x)) (q : Fails S) :
    Calls Tryz.prog 31 #[.pointer (some ⟨p, 0, none⟩), .bool false] w fun e w' => ∃ b, e = .returned (Dk.evW b) ∧ BadP w p n none O b w' := by
  have HR : Hid (∀ w1, Below w.heap.size w w1 → Calls Tryz.prog 48 #[.pointer (some ⟨p, 0, none⟩), .string nwN] w1 fun e w2 => ∃ b, e = .returned (Dk.evW b) ∧ Hid (BadP w p n none O b w2)) := by
    intro w1 hb
    refine (rm_cut x (h.below hb) (hE.below hb hE.lt) hS q).mono ?_
    rintro e w2 ⟨b, O2, rfl, e1, e2, d, f, o2⟩
    exact ⟨b, rfl, bad_below hb ⟨_, some x, O2, e1, e2, hg, hS.dn (by omega), d, f, o2⟩⟩
  have HL : Hid (Calls Tryz.prog 33 #[.pointer (some ⟨p, 0, none⟩)] w fun e w1 => ∃ v, e = .returned v ∧ w1.ownsRow w.heap.size 9 1 v 1 (([nwN.data.toList] : List (List UInt8)).map encStr) ∧ Below w.heap.size w w1) := Dk.dx_list h
  unfold nwN at HR
  clear h hE hS hg q
  go_enter Tryz.func31, Tryz.ntmps31
  go_wp2_with (first
    | (go_at_call 33; refine (unhide HL).mono ?_; rintro e w1 ⟨v, rfl, hv, b1⟩; clear HL; obtain ⟨a, cap, rfl⟩ := Dk.own_sl hv; have HV := hide hv; have HB1 := hide b1; clear hv b1))
  go_loopw [11] (fun i wr => ∃ k : Nat, k ≤ 1 ∧ i = .int .i64 k ∧ ((k < 1 ∧ wr = w1) ∨ (k = 1 ∧ Hid (False)))) (fun i _ => 1 - (intOf i).toNat)
  case atStart => exact ⟨0, by omega, rfl, .inl ⟨by omega, rfl⟩⟩
  case round =>
    obtain ⟨k, hk, rfl, ⟨hlt, rfl⟩ | ⟨rfl, hd⟩⟩ := hrel
    · have hlt' : (k : Int) < 1 := by omega
      by_cases hl : k = 0
      · obtain ⟨g, rfl, hc⟩ := names_cell (unhide HV) k (by show k < 1; omega)
        subst hl
        replace hc : wr.cell? ⟨g, 0, none⟩ = some (.string ⟨#[115, 110, 97, 112, 46, 110, 101, 119]⟩) := hc
        have HP := hide (fun W => prefix_any nwN W (by decide))
        rw [pre_nw] at HP
        unfold nwN at HP
        clear HV
        go_wp2_with (first | (go_at_call 47; refine (unhide HP _).mono ?_; rintro e w2 ⟨rfl, rfl⟩) | (go_at_call 48; refine (unhide HR _ (unhide HB1)).mono ?_; rintro e w3 ⟨b, rfl, H3⟩))
        go_ret
        exact ⟨b, rfl, unhide H3⟩
      · omega
    · exact absurd (unhide hd) id
set_option maxHeartbeats 3200000 in
set_option maxRecDepth 100000 in
theorem sweep_some_go {w : World} {p n : Nat} {S : Dk.St} {O : Nat → Prop} {s : Sn} (x : List UInt8 × Nat) (h : Dk.DX w p S (FS (some s) (some x)) O) (hE : Dk.ET w) (hS : Okk S (n + 1)) (_hg : gOk (some x)) (q : ¬ Fails S) :
    Calls Tryz.prog 31 #[.pointer (some ⟨p, 0, none⟩), .bool true] w fun e w' => e = .returned .nilIface ∧ GoP w p (nx S) (FS (some s) none) O w' := by
  have HR : Hid (∀ w1, Below w.heap.size w w1 → Calls Tryz.prog 48 #[.pointer (some ⟨p, 0, none⟩), .string nwN] w1 fun e w2 => e = .returned .nilIface ∧ Hid (GoP w p (nx S) (FS (some s) none) O w2)) := by
    intro w1 hb
    refine (rm_go x (h.below hb) (hE.below hb hE.lt) hS q).mono ?_
    rintro e w2 ⟨O2, rfl, d, f, o2⟩
    exact ⟨rfl, gop_below hb ⟨O2, d, f, o2⟩⟩
  have HL : Hid (Calls Tryz.prog 33 #[.pointer (some ⟨p, 0, none⟩)] w fun e w1 => ∃ v, e = .returned v ∧ w1.ownsRow w.heap.size 9 1 v 2 (([snN.data.toList, nwN.data.toList] : List (List UInt8)).map encStr) ∧ Below w.heap.size w w1) := Dk.dx_list h
  unfold nwN at HR
  clear h hE hS q
  go_enter Tryz.func31, Tryz.ntmps31
  go_wp2_with (first
    | (go_at_call 33; refine (unhide HL).mono ?_; rintro e w1 ⟨v, rfl, hv, b1⟩; clear HL; obtain ⟨a, cap, rfl⟩ := Dk.own_sl hv; have HV := hide hv; have HB1 := hide b1; clear hv b1))
  go_loopw [11] (fun i wr => ∃ k : Nat, k ≤ 2 ∧ i = .int .i64 k ∧ ((k < 2 ∧ wr = w1) ∨ (k = 2 ∧ Hid (GoP w p (nx S) (FS (some s) none) O wr)))) (fun i _ => 2 - (intOf i).toNat)
  case atStart => exact ⟨0, by omega, rfl, .inl ⟨by omega, rfl⟩⟩
  case round =>
    obtain ⟨k, hk, rfl, ⟨hlt, rfl⟩ | ⟨rfl, hd⟩⟩ := hrel
    · have hlt' : (k : Int) < 2 := by omega
      by_cases hl : k = 1
      · obtain ⟨g, rfl, hc⟩ := names_cell (unhide HV) k (by show k < 2; omega)
        subst hl
        replace hc : wr.cell? ⟨g, 1, none⟩ = some (.string ⟨#[115, 110, 97, 112, 46, 110, 101, 119]⟩) := hc
        have HP := hide (fun W => prefix_any nwN W (by decide))
        rw [pre_nw] at HP
        unfold nwN at HP
        clear HV
        go_wp2_with (first | (go_at_call 47; refine (unhide HP _).mono ?_; rintro e w2 ⟨rfl, rfl⟩) | (go_at_call 48; refine (unhide HR _ (unhide HB1)).mono ?_; rintro e w3 ⟨rfl, H3⟩))
        go_roundw
        case rel => exact ⟨2, by omega, by go_num, .inr ⟨rfl, H3⟩⟩
        case measure => simp [intOf]
      · obtain ⟨g, rfl, hc⟩ := names_cell (unhide HV) k (by show k < 2; omega)
        obtain rfl : k = 0 := by omega
        replace hc : wr.cell? ⟨g, 0, none⟩ = some (.string ⟨#[115, 110, 97, 112]⟩) := hc
        have HP := hide (fun W => prefix_any snN W (by decide))
        rw [pre_sn] at HP
        unfold snN at HP
        clear HV
        go_wp2_with (first | (go_at_call 47; refine (unhide HP _).mono ?_; rintro e w2 ⟨rfl, rfl⟩))
        go_roundw
        case rel => exact ⟨1, by omega, by go_num, .inl ⟨by omega, trivial⟩⟩
        case measure => simp [intOf]
    · go_wp2
      go_ret
      exact ⟨rfl, unhide hd⟩
set_option maxHeartbeats 3200000 in
set_option maxRecDepth 100000 in
theorem sweep_some_cut {w : World} {p n : Nat} {S : Dk.St} {O : Nat → Prop} {s : Sn} (x : List UInt8 × Nat) (h : Dk.DX w p S (FS (some s) (some x)) O) (hE : Dk.ET w) (hS : Okk S (n + 1)) (hg : gOk (some x)) (q : Fails S) :
    Calls Tryz.prog 31 #[.pointer (some ⟨p, 0, none⟩), .bool true] w fun e w' => ∃ b, e = .returned (Dk.evW b) ∧ BadP w p n (some s) O b w' := by
  have HR : Hid (∀ w1, Below w.heap.size w w1 → Calls Tryz.prog 48 #[.pointer (some ⟨p, 0, none⟩), .string nwN] w1 fun e w2 => ∃ b, e = .returned (Dk.evW b) ∧ Hid (BadP w p n (some s) O b w2)) := by
    intro w1 hb
    refine (rm_cut x (h.below hb) (hE.below hb hE.lt) hS q).mono ?_
    rintro e w2 ⟨b, O2, rfl, e1, e2, d, f, o2⟩
    exact ⟨b, rfl, bad_below hb ⟨_, some x, O2, e1, e2, hg, hS.dn (by omega), d, f, o2⟩⟩
  have HL : Hid (Calls Tryz.prog 33 #[.pointer (some ⟨p, 0, none⟩)] w fun e w1 => ∃ v, e = .returned v ∧ w1.ownsRow w.heap.size 9 1 v 2 (([snN.data.toList, nwN.data.toList] : List (List UInt8)).map encStr) ∧ Below w.heap.size w w1) := Dk.dx_list h
  unfold nwN at HR
  clear h hE hS hg q
  go_enter Tryz.func31, Tryz.ntmps31
  go_wp2_with (first
    | (go_at_call 33; refine (unhide HL).mono ?_; rintro e w1 ⟨v, rfl, hv, b1⟩; clear HL; obtain ⟨a, cap, rfl⟩ := Dk.own_sl hv; have HV := hide hv; have HB1 := hide b1; clear hv b1))
  go_loopw [11] (fun i wr => ∃ k : Nat, k ≤ 2 ∧ i = .int .i64 k ∧ ((k < 2 ∧ wr = w1) ∨ (k = 2 ∧ Hid (False)))) (fun i _ => 2 - (intOf i).toNat)
  case atStart => exact ⟨0, by omega, rfl, .inl ⟨by omega, rfl⟩⟩
  case round =>
    obtain ⟨k, hk, rfl, ⟨hlt, rfl⟩ | ⟨rfl, hd⟩⟩ := hrel
    · have hlt' : (k : Int) < 2 := by omega
      by_cases hl : k = 1
      · obtain ⟨g, rfl, hc⟩ := names_cell (unhide HV) k (by show k < 2; omega)
        subst hl
        replace hc : wr.cell? ⟨g, 1, none⟩ = some (.string ⟨#[115, 110, 97, 112, 46, 110, 101, 119]⟩) := hc
        have HP := hide (fun W => prefix_any nwN W (by decide))
        rw [pre_nw] at HP
        unfold nwN at HP
        clear HV
        go_wp2_with (first | (go_at_call 47; refine (unhide HP _).mono ?_; rintro e w2 ⟨rfl, rfl⟩) | (go_at_call 48; refine (unhide HR _ (unhide HB1)).mono ?_; rintro e w3 ⟨b, rfl, H3⟩))
        go_ret
        exact ⟨b, rfl, unhide H3⟩
      · obtain ⟨g, rfl, hc⟩ := names_cell (unhide HV) k (by show k < 2; omega)
        obtain rfl : k = 0 := by omega
        replace hc : wr.cell? ⟨g, 0, none⟩ = some (.string ⟨#[115, 110, 97, 112]⟩) := hc
        have HP := hide (fun W => prefix_any snN W (by decide))
        rw [pre_sn] at HP
        unfold snN at HP
        clear HV
        go_wp2_with (first | (go_at_call 47; refine (unhide HP _).mono ?_; rintro e w2 ⟨rfl, rfl⟩))
        go_roundw
        case rel => exact ⟨1, by omega, by go_num, .inl ⟨by omega, trivial⟩⟩
        case measure => simp [intOf]
    · exact absurd (unhide hd) id
end Go.Proofs.YtpminalccnhkjaaGreatDoor
