/- TreeLoads: bytes that are loaded and dumped again, or that no dump is. -/
import Derived.Test.YtmahkhpmaenkhaaDoorTLoad
import Derived.Test.YtmahkhpmaenkhaaDoorJTAs2TAsC
import Derived.Test.YtmahkhpmaenkhaaDoorTOne
namespace Go.Proofs.YtmahkhpmaenkhaaDoor
open Go.RowKit Go.Lib

theorem BL.br {w : World} {r : Nat} {v : Value} {l : List UInt8} (h : BL w r v l) : BR w v ⟨l.toArray⟩ := by
  have hsz : (⟨l.toArray⟩ : ByteArray).size = l.length := List.size_toArray
  obtain ⟨rfl, rfl⟩ | ⟨b, off, cap, rfl, h2, h3, h4, h5, h6⟩ := h
  · exact .inl ⟨rfl, none, 0, rfl⟩
  · refine .inr ⟨b, off, cap, by rw [hsz], h5, fun i hi => ?_⟩
    rw [hsz] at hi
    exact h6 i hi
theorem dumpL_leF (F : List It) : (dumpL F).length ≤ (dumpF F).length := by unfold dumpF; rw [List.length_append]; omega
section
variable {w : World} {v : Value} {l : List UInt8}
set_option maxHeartbeats 6400000 in
set_option maxRecDepth 100000 in
theorem loads_law (hv : BL w w.heap.size v l) (hE : ET w) : Calls Tryd.prog 4 #[v] w fun e w' => e = .returned (.bool true) ∧ Below w.heap.size w w' := by
  have HK := hide (known7_any w)
  obtain ⟨va, vc, hva⟩ : ∃ va vc, v = .slice va l.length vc := by
    obtain ⟨rfl, rfl⟩ | ⟨b, off, cap, rfl, _⟩ := hv
    · exact ⟨none, 0, rfl⟩
    · exact ⟨_, _, rfl⟩
  obtain ⟨len, hlen⟩ : ∃ len, len = l.length := ⟨_, rfl⟩
  rw [← hlen] at hva
  subst hva
  by_cases hbig : 2000 < len
  · have hbi : (2000 : Int) < (len : Int) := by omega
    clear hv hE hlen hbig
    go_enter Tryd.func4, Tryd.ntmps4
    go_wp2_with (go_at_call 6; refine (unhide HK).mono ?_; rintro e w1 ⟨rfl, hb1⟩; clear HK)
    go_ret
    exact ⟨rfl, hb1⟩
  · have hbi : ¬ ((2000 : Int) < (len : Int)) := by omega
    have hl2 : l.length ≤ 2000 := by omega
    have HLo : Hid (∀ w1, Below w.heap.size w w1 → Calls Tryd.prog 14 #[.slice va len vc] w1 (LoadP w1 l)) := fun w1 hb => Load_any (hv.below2 hb) (hE.below hb hE.lt) (by omega)
    have HV := hide (And.intro hv hE)
    cases hx : rdTree l with
    | none =>
      have HL2 : Hid (∀ w1, Below w.heap.size w w1 → Calls Tryd.prog 14 #[.slice va len vc] w1 fun e w2 => ∃ T x, e = .returned (.tuple #[.pointer none, .iface T x]) ∧ Hid (Calls Tryd.prog 15 #[.iface T x] w2 fun e w3 => e = .returned (.int .i64 20) ∧ Hid (Below w.heap.size w w3))) := fun w1 hb => by
        refine (unhide HLo w1 hb).mono ?_
        rintro e w2 ⟨z1, ⟨F, p, O, zx, _⟩ | ⟨_, T, x, m, rfl, z2⟩⟩
        · rw [hx] at zx; cases zx
        · have hb2 := below_tr hb z1
          refine ⟨T, x, rfl, ?_⟩
          refine (class_chain 20 (m + 1) T x w2 (hE.below hb2 hE.lt) z2).mono ?_
          rintro e w3 ⟨rfl, z3⟩
          exact ⟨rfl, below_tr hb2 z3⟩
      clear HLo HV hv hE hx hl2 hlen hbig
      go_enter Tryd.func4, Tryd.ntmps4
      go_wp2_with (first
        | (go_at_call 6; refine (unhide HK).mono ?_; rintro e w1 ⟨rfl, hb1⟩; clear HK; have HL3 := hide (unhide HL2 w1 hb1); clear HL2 hb1)
        | (go_at_call 14; refine (unhide HL3).mono ?_; rintro e w2 ⟨T, x, rfl, HC⟩; clear HL3)
        | (go_at_call 15; refine (unhide HC).mono ?_; rintro e w3 ⟨rfl, HB⟩; clear HC))
      go_ret
      exact ⟨rfl, unhide HB⟩
    | some F =>
      obtain ⟨f1, f2, f3, f4⟩ := rdTree_some hx
      have HL2 : Hid (∀ w1, Below w.heap.size w w1 → Calls Tryd.prog 14 #[.slice va len vc] w1 fun e w2 => ∃ p : Nat, e = .returned (.tuple #[.pointer (some ⟨p, 0, none⟩), .nilIface]) ∧ Hid (Calls Tryd.prog 13 #[.pointer (some ⟨p, 0, none⟩)] w2 fun e w3 => ∃ v3, e = .returned v3 ∧ Hid (Calls Tryd.prog 12 #[v3, .slice va len vc] w3 fun e w4 => e = .returned (.bool true) ∧ Hid (Below w.heap.size w w4)))) := fun w1 hb => by
        refine (unhide HLo w1 hb).mono ?_
        rintro e w2 ⟨z1, ⟨F', p, O, zx, rfl, z2, z3, z4⟩ | ⟨zx, _⟩⟩
        · rw [hx] at zx
          cases zx
          have hb2 := below_tr hb z1
          refine ⟨p, rfl, ?_⟩
          refine (Dump_any z2 (fun y hy => by have := f3 y hy; omega) (by omega) (by have := dumpL_leF F; rw [f1] at this; omega)).mono ?_
          rintro e w3 ⟨v3, rfl, y1, y2⟩
          have hb3 := below_tr hb2 y2
          refine ⟨v3, rfl, ?_⟩
          rw [f1] at y1
          refine (bytes_br (br_own _ y1 rfl) (hv.below2 hb3).br).mono ?_
          rintro e w4 ⟨rfl, rfl⟩
          exact ⟨rfl, hb3⟩
        · rw [hx] at zx; cases zx
      clear HLo HV hv hE hx hl2 hlen hbig f1 f2 f3 f4
      go_enter Tryd.func4, Tryd.ntmps4
      go_wp2_with (first
        | (go_at_call 6; refine (unhide HK).mono ?_; rintro e w1 ⟨rfl, hb1⟩; clear HK; have HL3 := hide (unhide HL2 w1 hb1); clear HL2 hb1)
        | (go_at_call 14; refine (unhide HL3).mono ?_; rintro e w2 ⟨p, rfl, HD⟩; clear HL3)
        | (go_at_call 13; refine (unhide HD).mono ?_; rintro e w3 ⟨v3, rfl, HBy⟩; clear HD)
        | (go_at_call 12; refine (unhide HBy).mono ?_; rintro e w4 ⟨rfl, HB⟩; clear HBy))
      go_ret
      exact ⟨rfl, unhide HB⟩
end
end Go.Proofs.YtmahkhpmaenkhaaDoor
