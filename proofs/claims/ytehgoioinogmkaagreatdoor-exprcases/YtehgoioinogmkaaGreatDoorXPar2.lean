/- The document's parser: may, must, open, close, name. -/
import Derived.Test.YtehgoioinogmkaaGreatDoorJXPar1XLexG
namespace Go.Proofs.YtehgoioinogmkaaGreatDoor
open Go.RowKit Go.Lib

theorem may_any {T : List Tk} {w : World} {p bt c : Nat} {S : PS} (hT : TG T) (h : PX T w p bt c S) (x : List UInt8) : Calls Tryz.prog 150 #[.pointer (some ⟨p, 0, none⟩), sv x] w fun e w' => e = .returned (.bool (isS T 2 x S)) ∧ PX T w' p bt c (mayS T 2 x S) ∧ FrX p w w' := by
  have HI := hide (word_run h x)
  have HN := hide (fun m => next_any hT (h.drewN m))
  have HX := hide h
  clear h
  unfold mayS
  cases hb : isS T 2 x S with
  | true =>
    rw [hb] at HI
    rw [if_pos rfl]
    clear hb
    go_enter Tryz.func150, Tryz.ntmps150
    go_wp2_with (first | (go_at_call 183; refine (unhide HI).mono ?_; rintro e w1 ⟨rfl, m, rfl⟩) | (go_at_call 161; refine (unhide HN m).mono ?_; rintro e w2 ⟨rfl, hp2, hf2⟩; have HP2 := hide hp2; have HF2 := hide hf2; clear hp2 hf2))
    go_ret
    exact ⟨rfl, unhide HP2, ((FrX.refl p w).drewN m).trans (unhide HF2)⟩
  | false =>
    rw [hb] at HI
    rw [if_neg (by decide)]
    clear hb
    go_enter Tryz.func150, Tryz.ntmps150
    go_wp2_with (go_at_call 183; refine (unhide HI).mono ?_; rintro e w1 ⟨rfl, m, rfl⟩)
    go_ret
    exact ⟨rfl, (unhide HX).drewN m, (FrX.refl p w).drewN m⟩
theorem maySign_any {T : List Tk} {w : World} {p bt c : Nat} {S : PS} (hT : TG T) (h : PX T w p bt c S) (x : List UInt8) : Calls Tryz.prog 103 #[.pointer (some ⟨p, 0, none⟩), sv x] w fun e w' => e = .returned (.bool (isS T 5 x S)) ∧ PX T w' p bt c (mayS T 5 x S) ∧ FrX p w w' := by
  have HI := hide (sign_run h x)
  have HN := hide (fun m => next_any hT (h.drewN m))
  have HX := hide h
  clear h
  unfold mayS
  cases hb : isS T 5 x S with
  | true =>
    rw [hb] at HI
    rw [if_pos rfl]
    clear hb
    go_enter Tryz.func103, Tryz.ntmps103
    go_wp2_with (first | (go_at_call 160; refine (unhide HI).mono ?_; rintro e w1 ⟨rfl, m, rfl⟩) | (go_at_call 161; refine (unhide HN m).mono ?_; rintro e w2 ⟨rfl, hp2, hf2⟩; have HP2 := hide hp2; have HF2 := hide hf2; clear hp2 hf2))
    go_ret
    exact ⟨rfl, unhide HP2, ((FrX.refl p w).drewN m).trans (unhide HF2)⟩
  | false =>
    rw [hb] at HI
    rw [if_neg (by decide)]
    clear hb
    go_enter Tryz.func103, Tryz.ntmps103
    go_wp2_with (go_at_call 160; refine (unhide HI).mono ?_; rintro e w1 ⟨rfl, m, rfl⟩)
    go_ret
    exact ⟨rfl, (unhide HX).drewN m, (FrX.refl p w).drewN m⟩
theorem must_any {T : List Tk} {w : World} {p bt c : Nat} {S : PS} (hT : TG T) (h : PX T w p bt c S) (x : List UInt8) : Calls Tryz.prog 153 #[.pointer (some ⟨p, 0, none⟩), sv x] w fun e w' => e = .returned (.tuple #[]) ∧ PX T w' p bt c (mustS T 2 x S) ∧ FrX p w w' := by
  have HI := hide (may_any hT h x)
  clear h
  unfold mustS
  unfold mayS at HI
  cases hb : isS T 2 x S with
  | true =>
    rw [hb] at HI
    rw [if_pos rfl] at HI ⊢
    clear hb
    go_enter Tryz.func153, Tryz.ntmps153
    go_wp2_with (go_at_call 150; refine (unhide HI).mono ?_; rintro e w1 ⟨rfl, hp1, hf1⟩; have HP1 := hide hp1; have HF1 := hide hf1; clear hp1 hf1)
    go_end0
    exact ⟨rfl, unhide HP1, unhide HF1⟩
  | false =>
    rw [hb] at HI
    rw [if_neg (by decide)] at HI ⊢
    clear hb
    go_enter Tryz.func153, Tryz.ntmps153
    go_wp2_with (first | (go_at_call 150; refine (unhide HI).mono ?_; rintro e w1 ⟨rfl, hp1, hf1⟩; have HP1 := hide hp1; have HF1 := hide hf1; clear hp1 hf1) | (go_at_call 105; refine (fail_any hT (unhide HP1) 1 (by decide)).mono ?_; rintro e w2 ⟨rfl, hp2, hf2⟩; have HP2 := hide hp2; have HF2 := hide hf2; clear hp2 hf2))
    go_end0
    exact ⟨rfl, unhide HP2, (unhide HF1).trans (unhide HF2)⟩
theorem mustSign_any {T : List Tk} {w : World} {p bt c : Nat} {S : PS} (hT : TG T) (h : PX T w p bt c S) (x : List UInt8) : Calls Tryz.prog 156 #[.pointer (some ⟨p, 0, none⟩), sv x] w fun e w' => e = .returned (.tuple #[]) ∧ PX T w' p bt c (mustS T 5 x S) ∧ FrX p w w' := by
  have HI := hide (maySign_any hT h x)
  clear h
  unfold mustS
  unfold mayS at HI
  cases hb : isS T 5 x S with
  | true =>
    rw [hb] at HI
    rw [if_pos rfl] at HI ⊢
    clear hb
    go_enter Tryz.func156, Tryz.ntmps156
    go_wp2_with (go_at_call 103; refine (unhide HI).mono ?_; rintro e w1 ⟨rfl, hp1, hf1⟩; have HP1 := hide hp1; have HF1 := hide hf1; clear hp1 hf1)
    go_end0
    exact ⟨rfl, unhide HP1, unhide HF1⟩
  | false =>
    rw [hb] at HI
    rw [if_neg (by decide)] at HI ⊢
    clear hb
    go_enter Tryz.func156, Tryz.ntmps156
    go_wp2_with (first | (go_at_call 103; refine (unhide HI).mono ?_; rintro e w1 ⟨rfl, hp1, hf1⟩; have HP1 := hide hp1; have HF1 := hide hf1; clear hp1 hf1) | (go_at_call 105; refine (fail_any hT (unhide HP1) 1 (by decide)).mono ?_; rintro e w2 ⟨rfl, hp2, hf2⟩; have HP2 := hide hp2; have HF2 := hide hf2; clear hp2 hf2))
    go_end0
    exact ⟨rfl, unhide HP2, (unhide HF1).trans (unhide HF2)⟩

theorem wrap64_lo (n : Int) : -9223372036854775808 ≤ wrap64 n := by unfold wrap64; omega
theorem wrap64_hi (n : Int) : wrap64 n ≤ 9223372036854775807 := by unfold wrap64; omega
/-- How much is open, written. -/
theorem PX.deep {T : List Tk} {w : World} {p bt c : Nat} {S : PS} (h : PX T w p bt c S) (d : Int) (h1 : -9223372036854775808 ≤ d) (h2 : d ≤ 9223372036854775807) : PX T (w.setCell ⟨p, 2, none⟩ (.int .i64 d)) p bt c { S with deep := d } :=
  h.upd ((FrX.refl p _).set _ _) h.lt h1 h2 h.err ((setX h.blk 2 _).trans rfl)
set_option maxRecDepth 10000 in
theorem close_any {T : List Tk} {w : World} {p bt c : Nat} {S : PS} (hT : TG T) (h : PX T w p bt c S) (x : List UInt8) : Calls Tryz.prog 186 #[.pointer (some ⟨p, 0, none⟩), sv x] w fun e w' => e = .returned (.tuple #[]) ∧ PX T w' p bt c (closeS T x S) ∧ FrX p w w' := by
  obtain ⟨_, _, c2, _, _⟩ := h.cells
  have f2 := h.frz 2
  have HD := hide (h.deep (wrap64 (S.deep - 1)) (wrap64_lo _) (wrap64_hi _))
  clear h
  by_cases hx : x = []
  · subst hx
    have HS : Hid (closeS T [] S = { S with deep := wrap64 (S.deep - 1) }) := if_pos rfl
    unfold sv
    go_enter Tryz.func186, Tryz.ntmps186
    go_wp2_with fail
    go_end0
    refine ⟨rfl, ?_, (FrX.refl p w).set _ _⟩
    rw [unhide HS]
    exact unhide HD
  · have HS : Hid (closeS T x S = mustS T 5 x { S with deep := wrap64 (S.deep - 1) }) := if_neg hx
    have HM := hide (mustSign_any hT (unhide HD) x)
    have hxe : x.isEmpty = false := by simpa using hx
    unfold sv at HM ⊢
    clear hx HD
    go_enter Tryz.func186, Tryz.ntmps186
    go_wp2_with (go_at_call 156; refine (unhide HM).mono ?_; rintro e w1 ⟨rfl, hp1, hf1⟩; have HP1 := hide hp1; have HF1 := hide hf1; clear hp1 hf1)
    go_end0
    refine ⟨rfl, ?_, ((FrX.refl p w).set _ _).trans (unhide HF1)⟩
    rw [unhide HS]
    exact unhide HP1
set_option maxRecDepth 10000 in
theorem open_any {T : List Tk} {w : World} {p bt c : Nat} {S : PS} (hT : TG T) (h : PX T w p bt c S) (x : List UInt8) : Calls Tryz.prog 184 #[.pointer (some ⟨p, 0, none⟩), sv x] w fun e w' => e = .returned (.tuple #[]) ∧ PX T w' p bt c (openS T x S) ∧ FrX p w w' := by
  have HG := hide (sign_run h x)
  have HW := hide (fun m => word_run (h.drewN m) x)
  have HX := hide h
  have HC := hide (fun m => (h.drewN m).cells.2.2.1)
  clear h
  cases h5 : isS T 5 x S with
  | true =>
    have hb : (isS T 5 x S || isS T 2 x S) = true := by rw [h5]; rfl
    rw [h5] at HG
    clear h5 HW
    by_cases h30 : S.deep = 30
    · have HS : Hid (openS T x S = failS T 2 S) := by show openS T x S = _; unfold openS; rw [if_pos hb, if_pos h30]
      have hd : (S.deep == 30) = true := by simp [h30]
      have HF := hide (fun m => fail_any hT ((unhide HX).drewN m) 2 (by decide))
      clear hb h30
      go_enter Tryz.func184, Tryz.ntmps184
      go_wp2_with (first | (go_at_call 160; refine (unhide HG).mono ?_; rintro e w1 ⟨rfl, m, rfl⟩; have hc2 := unhide HC m) | (go_at_call 105; refine (unhide HF (m)).mono ?_; rintro e w3 ⟨rfl, hp2, hf2⟩; have HP2 := hide hp2; have HF2 := hide hf2; clear hp2 hf2))
      try simp only [Exit.inBlock, Exit.then]
      first | go_end0 | (refine bodyPost_ret (results_none rfl _ _ _) rfl ?_)
      refine ⟨rfl, ?_, (((FrX.refl p w).drewN (m))).trans (unhide HF2)⟩
      rw [unhide HS]; exact unhide HP2
    · have HS : Hid (openS T x S = nextS T { S with deep := wrap64 (S.deep + 1) }) := by show openS T x S = _; unfold openS; rw [if_pos hb, if_neg h30]
      have hd : (S.deep == 30) = false := by simp [h30]
      have HN := hide (fun m => next_any hT (((unhide HX).drewN m).deep (wrap64 (S.deep + 1)) (wrap64_lo _) (wrap64_hi _)))
      have hf : ∀ m, (w.drewN m).frozen? ⟨p, 2, none⟩ = false := fun m => ((unhide HX).drewN m).frz 2
      clear hb h30
      go_enter Tryz.func184, Tryz.ntmps184
      go_wp2_with (first | (go_at_call 160; refine (unhide HG).mono ?_; rintro e w1 ⟨rfl, m, rfl⟩; have hc2 := unhide HC m; have hf2 := hf m) | (go_at_call 161; refine (unhide HN (m)).mono ?_; rintro e w3 ⟨rfl, hp2, hf2⟩; have HP2 := hide hp2; have HF2 := hide hf2; clear hp2 hf2))
      try simp only [Exit.inBlock, Exit.then]
      first | go_end0 | (refine bodyPost_ret (results_none rfl _ _ _) rfl ?_)
      refine ⟨rfl, ?_, (((FrX.refl p w).drewN (m)).set _ _).trans (unhide HF2)⟩
      rw [unhide HS]; exact unhide HP2
  | false =>
    rw [h5] at HG
    cases h2 : isS T 2 x S with
    | true =>
      have hb : (isS T 5 x S || isS T 2 x S) = true := by rw [h2, Bool.or_true]
      rw [h2] at HW
      clear h5 h2
      by_cases h30 : S.deep = 30
      · have HS : Hid (openS T x S = failS T 2 S) := by show openS T x S = _; unfold openS; rw [if_pos hb, if_pos h30]
        have hd : (S.deep == 30) = true := by simp [h30]
        have HF := hide (fun m => fail_any hT ((unhide HX).drewN m) 2 (by decide))
        clear hb h30
        go_enter Tryz.func184, Tryz.ntmps184
        go_wp2_with (first | (go_at_call 160; refine (unhide HG).mono ?_; rintro e w1 ⟨rfl, m, rfl⟩; have hc2 := unhide HC m) | (go_at_call 183; refine (unhide HW m).mono ?_; rintro e w2 ⟨rfl, m2, rfl⟩; rw [World.drewN_drewN]; have hc3 := unhide HC (m + m2)) | (go_at_call 105; refine (unhide HF (m + m2)).mono ?_; rintro e w3 ⟨rfl, hp2, hf2⟩; have HP2 := hide hp2; have HF2 := hide hf2; clear hp2 hf2))
        try simp only [Exit.inBlock, Exit.then]
        first | go_end0 | (refine bodyPost_ret (results_none rfl _ _ _) rfl ?_)
        refine ⟨rfl, ?_, (((FrX.refl p w).drewN (m + m2))).trans (unhide HF2)⟩
        rw [unhide HS]; exact unhide HP2
      · have HS : Hid (openS T x S = nextS T { S with deep := wrap64 (S.deep + 1) }) := by show openS T x S = _; unfold openS; rw [if_pos hb, if_neg h30]
        have hd : (S.deep == 30) = false := by simp [h30]
        have HN := hide (fun m => next_any hT (((unhide HX).drewN m).deep (wrap64 (S.deep + 1)) (wrap64_lo _) (wrap64_hi _)))
        have hf : ∀ m, (w.drewN m).frozen? ⟨p, 2, none⟩ = false := fun m => ((unhide HX).drewN m).frz 2
        clear hb h30
        go_enter Tryz.func184, Tryz.ntmps184
        go_wp2_with (first | (go_at_call 160; refine (unhide HG).mono ?_; rintro e w1 ⟨rfl, m, rfl⟩; have hc2 := unhide HC m; have hf2 := hf m) | (go_at_call 183; refine (unhide HW m).mono ?_; rintro e w2 ⟨rfl, m2, rfl⟩; rw [World.drewN_drewN]; have hc3 := unhide HC (m + m2); have hf3 := hf (m + m2)) | (go_at_call 161; refine (unhide HN (m + m2)).mono ?_; rintro e w3 ⟨rfl, hp2, hf2⟩; have HP2 := hide hp2; have HF2 := hide hf2; clear hp2 hf2))
        try simp only [Exit.inBlock, Exit.then]
        first | go_end0 | (refine bodyPost_ret (results_none rfl _ _ _) rfl ?_)
        refine ⟨rfl, ?_, (((FrX.refl p w).drewN (m + m2)).set _ _).trans (unhide HF2)⟩
        rw [unhide HS]; exact unhide HP2
    | false =>
      have HS : Hid (openS T x S = failS T 1 S) := by
        show openS T x S = _
        unfold openS
        rw [h5, h2]; rfl
      have HF := hide (fun m => fail_any hT ((unhide HX).drewN m) 1 (by decide))
      rw [h2] at HW
      clear h5 h2
      go_enter Tryz.func184, Tryz.ntmps184
      go_wp2_with (first | (go_at_call 160; refine (unhide HG).mono ?_; rintro e w1 ⟨rfl, m, rfl⟩; have hc2 := unhide HC m) | (go_at_call 183; refine (unhide HW m).mono ?_; rintro e w2 ⟨rfl, m2, rfl⟩; rw [World.drewN_drewN]; have hc3 := unhide HC (m + m2)) | (go_at_call 105; refine (unhide HF (m + m2)).mono ?_; rintro e w3 ⟨rfl, hp2, hf2⟩; have HP2 := hide hp2; have HF2 := hide hf2; clear hp2 hf2))
      try simp only [Exit.inBlock, Exit.then]
      first | go_end0 | (refine bodyPost_ret (results_none rfl _ _ _) rfl ?_)
      refine ⟨rfl, ?_, (((FrX.refl p w).drewN (m + m2))).trans (unhide HF2)⟩
      rw [unhide HS]; exact unhide HP2
theorem named_run {T : List Tk} {w : World} {p bt c : Nat} {S : PS} (h : PX T w p bt c S) : Calls Tryz.prog 155 #[.pointer (some ⟨p, 0, none⟩)] w fun e w' => e = .returned (.bool (namedS T S)) ∧ ∃ m, w' = w.drewN m := by
  have HU := hide (fun m => ok_any (h.drewN m))
  obtain ⟨c0, c1, c2, c3, c4⟩ := h.cells
  obtain ⟨t0, t1, t2⟩ := h.tok h.lt
  have hlt : (S.i : Int) < (T.length : Int) := by have := h.lt; omega
  have hi0 : (0 : Int) ≤ (S.i : Int) := by omega
  obtain ⟨tk, htk⟩ : ∃ tk, tk = T.getD S.i ⟨0, [], 0⟩ := ⟨_, rfl⟩
  rw [← htk] at t0
  have HE : Hid (namedS T S = (S.err == 0 && tk.kind == 1)) := by rw [htk]; rfl
  have hk : ((tk.kind : Int) == 1) = (tk.kind == 1) := by
    by_cases e : tk.kind = 1
    · simp [e]
    · rw [beq_eq_false_iff_ne.2 (by omega : (tk.kind : Int) ≠ 1), beq_eq_false_iff_ne.2 e]
  have HK := hide hk
  clear h htk c2 c3 c4 t1 t2 hk
  cases hb : (S.err == 0) with
  | true =>
    rw [hb] at HU HE
    clear hb
    go_enter Tryz.func155, Tryz.ntmps155
    go_wp2_with fail
    go_quiet ((go_at_call 104; refine Calls.quiet_of_same (unhide HU _)))
    go_wp2_with fail
    go_ret
    exact ⟨xret_bool (by rw [unhide HE, ← unhide HK]; rfl), nq, rfl⟩
  | false =>
    rw [hb] at HU HE
    clear hb
    go_enter Tryz.func155, Tryz.ntmps155
    go_wp2_with fail
    go_quiet ((go_at_call 104; refine Calls.quiet_of_same (unhide HU _)))
    go_wp2_with fail
    go_ret
    exact ⟨xret_bool (by rw [unhide HE]; rfl), nq, rfl⟩
theorem named_any {T : List Tk} {w : World} {p bt c : Nat} {S : PS} (h : PX T w p bt c S) : Calls Tryz.prog 155 #[.pointer (some ⟨p, 0, none⟩)] w fun e w' => e = .returned (.bool (namedS T S)) ∧ PX T w' p bt c S ∧ FrX p w w' := by
  refine (named_run h).mono ?_
  rintro e w' ⟨rfl, m, rfl⟩
  exact ⟨rfl, h.drewN m, (FrX.refl p w).drewN m⟩
theorem word_any {T : List Tk} {w : World} {p bt c : Nat} {S : PS} (h : PX T w p bt c S) (x : List UInt8) : Calls Tryz.prog 183 #[.pointer (some ⟨p, 0, none⟩), sv x] w fun e w' => e = .returned (.bool (isS T 2 x S)) ∧ PX T w' p bt c S ∧ FrX p w w' := by
  refine (word_run h x).mono ?_
  rintro e w' ⟨rfl, m, rfl⟩
  exact ⟨rfl, h.drewN m, (FrX.refl p w).drewN m⟩
theorem sign_any' {T : List Tk} {w : World} {p bt c : Nat} {S : PS} (h : PX T w p bt c S) (x : List UInt8) : Calls Tryz.prog 160 #[.pointer (some ⟨p, 0, none⟩), sv x] w fun e w' => e = .returned (.bool (isS T 5 x S)) ∧ PX T w' p bt c S ∧ FrX p w w' := by
  refine (sign_run h x).mono ?_
  rintro e w' ⟨rfl, m, rfl⟩
  exact ⟨rfl, h.drewN m, (FrX.refl p w).drewN m⟩
theorem ok_any' {T : List Tk} {w : World} {p bt c : Nat} {S : PS} (h : PX T w p bt c S) : Calls Tryz.prog 104 #[.pointer (some ⟨p, 0, none⟩)] w fun e w' => e = .returned (.bool (S.err == 0)) ∧ PX T w' p bt c S ∧ FrX p w w' := by
  refine (ok_any h).mono ?_
  rintro e w' ⟨rfl, rfl⟩
  exact ⟨rfl, h, FrX.refl p _⟩
/-- The text of the token that stands here. -/
theorem tkS_mem {T : List Tk} {S : PS} (h : S.i < T.length) : tkS T S ∈ T := by unfold tkS; rw [List.getD_eq_getElem?_getD, List.getElem?_eq_getElem h]; exact List.getElem_mem _
set_option maxRecDepth 10000 in
theorem name_any {T : List Tk} {w : World} {p bt c : Nat} {S : PS} (hT : TG T) (h : PX T w p bt c S) : Calls Tryz.prog 152 #[.pointer (some ⟨p, 0, none⟩)] w fun e w' => e = .returned (sv (nameS T S).1) ∧ PX T w' p bt c (nameS T S).2 ∧ FrX p w w' := by
  have HX := hide h
  have hlt : (S.i : Int) < (T.length : Int) := by have := h.lt; omega
  have hi0 : (0 : Int) ≤ (S.i : Int) := by omega
  have htl : (tkS T S).text.length ≤ 3000 := hT.text _ (tkS_mem h.lt)
  obtain ⟨r, hr⟩ : ∃ r, r = nameS T S := ⟨_, rfl⟩
  rw [← hr]
  have HR := hide hr
  obtain ⟨tx, htx⟩ : ∃ tx, tx = (tkS T S).text := ⟨_, rfl⟩
  have HTK : Hid ((T.getD S.i ⟨0, [], 0⟩).text = tx) := htx.symm
  rw [← htx] at htl
  have HTX := hide htx
  clear h hr htx
  cases hb : namedS T S with
  | false =>
    have HS : Hid (r = ([], failS T 1 S)) := by rw [unhide HR]; show nameS T S = _; unfold nameS; rw [hb]; rfl
    have HNB := hide hb
    rw [unhide HS]
    clear hb
    unfold sv
    go_enter Tryz.func152, Tryz.ntmps152
    go_wp2_with (first | (go_at_call 155; refine (named_any (unhide HX)).mono ?_; rw [unhide HNB]; rintro e w1 ⟨rfl, hp1, hf1⟩; have HP1 := hide hp1; have HF1 := hide hf1; clear hp1 hf1) | (go_at_call 105; refine (fail_any hT (unhide HP1) 1 (by decide)).mono ?_; rintro e w3 ⟨rfl, hp2, hf2⟩; have HP2 := hide hp2; have HF2 := hide hf2; clear hp2 hf2))
    go_ret
    exact ⟨rfl, unhide HP2, (unhide HF1).trans (unhide HF2)⟩
  | true =>
    have HNB := hide hb
    by_cases h20 : 20 < tx.length
    · have HS : Hid (r = ([], failS T 2 S)) := by rw [unhide HR]; show nameS T S = _; unfold nameS; rw [hb, ← unhide HTX, if_pos rfl, if_pos h20]
      have h20' : (20 : Int) < (tx.length : Int) := by omega
      rw [unhide HS]
      clear hb
      unfold sv at *
      go_enter Tryz.func152, Tryz.ntmps152
      go_wp2_with (go_at_call 155; refine (named_any (unhide HX)).mono ?_; rw [unhide HNB]; rintro e w1 ⟨rfl, hp1, hf1⟩; obtain ⟨c0, c1, c2, c3, c4⟩ := hp1.cells; have t1 := (hp1.tok hp1.lt).2.1; rw [unhide HTK] at t1; have HP1 := hide hp1; have HF1 := hide hf1; clear hp1 hf1 c2 c3 c4)
      unfold sv at t1
      go_quiet (fail)
      go_wp2_with (go_at_call 105; refine (fail_any hT ((unhide HP1).drewN nq) 2 (by decide)).mono ?_; rintro e w3 ⟨rfl, hp2, hf2⟩; have HP2 := hide hp2; have HF2 := hide hf2; clear hp2 hf2)
      go_ret
      exact ⟨rfl, unhide HP2, ((unhide HF1).drewN nq).trans (unhide HF2)⟩
    · have HS : Hid (r = (tx, nextS T S)) := by rw [unhide HR]; show nameS T S = _; unfold nameS; rw [hb, ← unhide HTX, if_pos rfl, if_neg h20]
      have h20' : ¬ (20 : Int) < (tx.length : Int) := by omega
      rw [unhide HS]
      clear hb
      unfold sv at *
      go_enter Tryz.func152, Tryz.ntmps152
      go_wp2_with (go_at_call 155; refine (named_any (unhide HX)).mono ?_; rw [unhide HNB]; rintro e w1 ⟨rfl, hp1, hf1⟩; obtain ⟨c0, c1, c2, c3, c4⟩ := hp1.cells; have t1 := (hp1.tok hp1.lt).2.1; rw [unhide HTK] at t1; have HP1 := hide hp1; have HF1 := hide hf1; clear hp1 hf1 c2 c3 c4)
      unfold sv at t1
      go_quiet (fail)
      go_wp2_with (go_at_call 161; refine (next_any hT ((unhide HP1).drewN nq)).mono ?_; rintro e w3 ⟨rfl, hp2, hf2⟩; have HP2 := hide hp2; have HF2 := hide hf2; clear hp2 hf2)
      go_ret
      exact ⟨rfl, unhide HP2, ((unhide HF1).drewN nq).trans (unhide HF2)⟩
end Go.Proofs.YtehgoioinogmkaaGreatDoor
