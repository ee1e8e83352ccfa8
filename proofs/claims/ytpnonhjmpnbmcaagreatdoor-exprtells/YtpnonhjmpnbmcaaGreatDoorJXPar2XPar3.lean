/- The document's parser: may, must, open, close, name. -/
import Derived.Test.YtpnonhjmpnbmcaaGreatDoorJXPar1XLexG
import Derived.Test.YtpnonhjmpnbmcaaGreatDoorKRef
namespace Go.Proofs.YtpnonhjmpnbmcaaGreatDoor
open Go.RowKit Go.Lib
open Act (put)
set_option maxRecDepth 10000
set_option maxHeartbeats 1600000
theorem may_any {T:List Tk} {w:World} {p bt c:Nat} {S:PS} (hT:TG T) (h:PX T w p bt c S) (x:List UInt8):Calls Tryz.prog 143 #[.pointer (some ⟨p,0,none⟩),sv x] w fun e w'=>e=.returned (.bool (isS T 2 x S))∧PX T w' p bt c (mayS T 2 x S)∧FrX p w w':=by
 have HI:=V (word_run h x)
 have HN:=V (fun m=>next_any hT (h.drewN m))
 have HX:=V h
 clear h
 unfold mayS
 cases hb:isS T 2 x S with
 | true=>
  rw [hb] at HI
  rw [if_pos rfl]
  clear hb
  go_enter Tryz.func143,Tryz.ntmps143
  go_wp2_with (first | (go_at_call 177;refine (U HI).mono ?_;rintro e w1 ⟨rfl,m,rfl⟩) | (go_at_call 154;refine (U HN m).mono ?_;rintro e w2 ⟨rfl,hp2,hf2⟩;have HP2:=V hp2;have HF2:=V hf2;clear hp2 hf2))
  go_ret
  exact ⟨rfl,U HP2,((FrX.refl p w).drewN m).trans (U HF2)⟩
 | false=>
  rw [hb] at HI
  rw [if_neg (by decide)]
  clear hb
  go_enter Tryz.func143,Tryz.ntmps143
  go_wp2_with (go_at_call 177;refine (U HI).mono ?_;rintro e w1 ⟨rfl,m,rfl⟩)
  go_ret
  exact ⟨rfl,(U HX).drewN m,(FrX.refl p w).drewN m⟩
theorem maySign_any {T:List Tk} {w:World} {p bt c:Nat} {S:PS} (hT:TG T) (h:PX T w p bt c S) (x:List UInt8):Calls Tryz.prog 95 #[.pointer (some ⟨p,0,none⟩),sv x] w fun e w'=>e=.returned (.bool (isS T 5 x S))∧PX T w' p bt c (mayS T 5 x S)∧FrX p w w':=by
 have HI:=V (sign_run h x)
 have HN:=V (fun m=>next_any hT (h.drewN m))
 have HX:=V h
 clear h
 unfold mayS
 cases hb:isS T 5 x S with
 | true=>
  rw [hb] at HI
  rw [if_pos rfl]
  clear hb
  go_enter Tryz.func95,Tryz.ntmps95
  go_wp2_with (first | (go_at_call 153;refine (U HI).mono ?_;rintro e w1 ⟨rfl,m,rfl⟩) | (go_at_call 154;refine (U HN m).mono ?_;rintro e w2 ⟨rfl,hp2,hf2⟩;have HP2:=V hp2;have HF2:=V hf2;clear hp2 hf2))
  go_ret
  exact ⟨rfl,U HP2,((FrX.refl p w).drewN m).trans (U HF2)⟩
 | false=>
  rw [hb] at HI
  rw [if_neg (by decide)]
  clear hb
  go_enter Tryz.func95,Tryz.ntmps95
  go_wp2_with (go_at_call 153;refine (U HI).mono ?_;rintro e w1 ⟨rfl,m,rfl⟩)
  go_ret
  exact ⟨rfl,(U HX).drewN m,(FrX.refl p w).drewN m⟩
theorem must_any {T:List Tk} {w:World} {p bt c:Nat} {S:PS} (hT:TG T) (h:PX T w p bt c S) (x:List UInt8):Calls Tryz.prog 146 #[.pointer (some ⟨p,0,none⟩),sv x] w fun e w'=>e=.returned (.tuple #[])∧PX T w' p bt c (mustS T 2 x S)∧FrX p w w':=by
 have HI:=V (may_any hT h x)
 clear h
 unfold mustS
 unfold mayS at HI
 cases hb:isS T 2 x S with
 | true=>
  rw [hb] at HI
  rw [if_pos rfl] at HI ⊢
  clear hb
  go_enter Tryz.func146,Tryz.ntmps146
  go_wp2_with (go_at_call 143;refine (U HI).mono ?_;rintro e w1 ⟨rfl,hp1,hf1⟩;have HP1:=V hp1;have HF1:=V hf1;clear hp1 hf1)
  go_end0
  exact ⟨rfl,U HP1,U HF1⟩
 | false=>
  rw [hb] at HI
  rw [if_neg (by decide)] at HI ⊢
  clear hb
  go_enter Tryz.func146,Tryz.ntmps146
  go_wp2_with (first | (go_at_call 143;refine (U HI).mono ?_;rintro e w1 ⟨rfl,hp1,hf1⟩;have HP1:=V hp1;have HF1:=V hf1;clear hp1 hf1) | (go_at_call 97;refine (fail_any hT (U HP1) 1 (by decide)).mono ?_;rintro e w2 ⟨rfl,hp2,hf2⟩;have HP2:=V hp2;have HF2:=V hf2;clear hp2 hf2))
  go_end0
  exact ⟨rfl,U HP2,(U HF1).trans (U HF2)⟩
theorem mustSign_any {T:List Tk} {w:World} {p bt c:Nat} {S:PS} (hT:TG T) (h:PX T w p bt c S) (x:List UInt8):Calls Tryz.prog 149 #[.pointer (some ⟨p,0,none⟩),sv x] w fun e w'=>e=.returned (.tuple #[])∧PX T w' p bt c (mustS T 5 x S)∧FrX p w w':=by
 have HI:=V (maySign_any hT h x)
 clear h
 unfold mustS
 unfold mayS at HI
 cases hb:isS T 5 x S with
 | true=>
  rw [hb] at HI
  rw [if_pos rfl] at HI ⊢
  clear hb
  go_enter Tryz.func149,Tryz.ntmps149
  go_wp2_with (go_at_call 95;refine (U HI).mono ?_;rintro e w1 ⟨rfl,hp1,hf1⟩;have HP1:=V hp1;have HF1:=V hf1;clear hp1 hf1)
  go_end0
  exact ⟨rfl,U HP1,U HF1⟩
 | false=>
  rw [hb] at HI
  rw [if_neg (by decide)] at HI ⊢
  clear hb
  go_enter Tryz.func149,Tryz.ntmps149
  go_wp2_with (first | (go_at_call 95;refine (U HI).mono ?_;rintro e w1 ⟨rfl,hp1,hf1⟩;have HP1:=V hp1;have HF1:=V hf1;clear hp1 hf1) | (go_at_call 97;refine (fail_any hT (U HP1) 1 (by decide)).mono ?_;rintro e w2 ⟨rfl,hp2,hf2⟩;have HP2:=V hp2;have HF2:=V hf2;clear hp2 hf2))
  go_end0
  exact ⟨rfl,U HP2,(U HF1).trans (U HF2)⟩
theorem wrap64_lo (n:Int):-9223372036854775808 ≤ wrap64 n:=by unfold wrap64;omega
theorem wrap64_hi (n:Int):wrap64 n ≤ 9223372036854775807:=by unfold wrap64;omega
/-- How much is open, written. -/
theorem PX.deep {T:List Tk} {w:World} {p bt c:Nat} {S:PS} (h:PX T w p bt c S) (d:Int) (h1:-9223372036854775808 ≤ d) (h2:d ≤ 9223372036854775807):PX T (w.setCell ⟨p,2,none⟩ (.int .i64 d)) p bt c { S with deep:=d }:=
 h.upd ((FrX.refl p _).set _ _) h.lt h1 h2 h.err ((setX h.blk 2 _).trans rfl)
theorem close_any {T:List Tk} {w:World} {p bt c:Nat} {S:PS} (hT:TG T) (h:PX T w p bt c S) (x:List UInt8):Calls Tryz.prog 180 #[.pointer (some ⟨p,0,none⟩),sv x] w fun e w'=>e=.returned (.tuple #[])∧PX T w' p bt c (closeS T x S)∧FrX p w w':=by
 obtain ⟨_,_,c2,_,_⟩:=h.cells
 have f2:=h.frz 2
 have HD:=V (h.deep (wrap64 (S.deep - 1)) (wrap64_lo _) (wrap64_hi _))
 clear h
 by_cases hx:x=[]
 · subst hx
   have HS:Hid (closeS T [] S={ S with deep:=wrap64 (S.deep - 1) }):=if_pos rfl
   unfold sv
   go_enter Tryz.func180,Tryz.ntmps180
   go_wp2_with fail
   go_end0
   refine ⟨rfl,?_,(FrX.refl p w).set _ _⟩
   rw [U HS]
   exact U HD
 · have HS:Hid (closeS T x S=mustS T 5 x { S with deep:=wrap64 (S.deep - 1) }):=if_neg hx
   have HM:=V (mustSign_any hT (U HD) x)
   have hxe:x.isEmpty=false:=by simpa using hx
   unfold sv at HM ⊢
   clear hx HD
   go_enter Tryz.func180,Tryz.ntmps180
   go_wp2_with (go_at_call 149;refine (U HM).mono ?_;rintro e w1 ⟨rfl,hp1,hf1⟩;have HP1:=V hp1;have HF1:=V hf1;clear hp1 hf1)
   go_end0
   refine ⟨rfl,?_,((FrX.refl p w).set _ _).trans (U HF1)⟩
   rw [U HS]
   exact U HP1
theorem open_any {T:List Tk} {w:World} {p bt c:Nat} {S:PS} (hT:TG T) (h:PX T w p bt c S) (x:List UInt8):Calls Tryz.prog 178 #[.pointer (some ⟨p,0,none⟩),sv x] w fun e w'=>e=.returned (.tuple #[])∧PX T w' p bt c (openS T x S)∧FrX p w w':=by
 have HG:=V (sign_run h x)
 have HW:=V (fun m=>word_run (h.drewN m) x)
 have HX:=V h
 have HC:=V (fun m=>(h.drewN m).cells.2.2.1)
 clear h
 cases h5:isS T 5 x S with
 | true=>
  have hb:(isS T 5 x S || isS T 2 x S)=true:=by rw [h5];rfl
  rw [h5] at HG
  clear h5 HW
  by_cases h30:S.deep=30
  · have HS:Hid (openS T x S=failS T 2 S):=by show openS T x S=_;unfold openS;rw [if_pos hb,if_pos h30]
    have hd:(S.deep == 30)=true:=by simp [h30]
    have HF:=V (fun m=>fail_any hT ((U HX).drewN m) 2 (by decide))
    clear hb h30
    go_enter Tryz.func178,Tryz.ntmps178
    go_wp2_with (first | (go_at_call 153;refine (U HG).mono ?_;rintro e w1 ⟨rfl,m,rfl⟩;have hc2:=U HC m) | (go_at_call 97;refine (U HF (m)).mono ?_;rintro e w3 ⟨rfl,hp2,hf2⟩;have HP2:=V hp2;have HF2:=V hf2;clear hp2 hf2))
    try simp only[Exit.inBlock,Exit.then]
    first | go_end0 | (refine bodyPost_ret (results_none rfl _ _ _) rfl ?_)
    refine ⟨rfl,?_,(((FrX.refl p w).drewN (m))).trans (U HF2)⟩
    rw [U HS];exact U HP2
  · have HS:Hid (openS T x S=nextS T { S with deep:=wrap64 (S.deep+1) }):=by show openS T x S=_;unfold openS;rw [if_pos hb,if_neg h30]
    have hd:(S.deep == 30)=false:=by simp [h30]
    have HN:=V (fun m=>next_any hT (((U HX).drewN m).deep (wrap64 (S.deep+1)) (wrap64_lo _) (wrap64_hi _)))
    have hf:∀ m,(w.drewN m).frozen? ⟨p,2,none⟩=false:=fun m=>((U HX).drewN m).frz 2
    clear hb h30
    go_enter Tryz.func178,Tryz.ntmps178
    go_wp2_with (first | (go_at_call 153;refine (U HG).mono ?_;rintro e w1 ⟨rfl,m,rfl⟩;have hc2:=U HC m;have hf2:=hf m) | (go_at_call 154;refine (U HN (m)).mono ?_;rintro e w3 ⟨rfl,hp2,hf2⟩;have HP2:=V hp2;have HF2:=V hf2;clear hp2 hf2))
    try simp only[Exit.inBlock,Exit.then]
    first | go_end0 | (refine bodyPost_ret (results_none rfl _ _ _) rfl ?_)
    refine ⟨rfl,?_,(((FrX.refl p w).drewN (m)).set _ _).trans (U HF2)⟩
    rw [U HS];exact U HP2
 | false=>
  rw [h5] at HG
  cases h2:isS T 2 x S with
  | true=>
   have hb:(isS T 5 x S || isS T 2 x S)=true:=by rw [h2,Bool.or_true]
   rw [h2] at HW
   clear h5 h2
   by_cases h30:S.deep=30
   · have HS:Hid (openS T x S=failS T 2 S):=by show openS T x S=_;unfold openS;rw [if_pos hb,if_pos h30]
     have hd:(S.deep == 30)=true:=by simp [h30]
     have HF:=V (fun m=>fail_any hT ((U HX).drewN m) 2 (by decide))
     clear hb h30
     go_enter Tryz.func178,Tryz.ntmps178
     go_wp2_with (first | (go_at_call 153;refine (U HG).mono ?_;rintro e w1 ⟨rfl,m,rfl⟩;have hc2:=U HC m) | (go_at_call 177;refine (U HW m).mono ?_;rintro e w2 ⟨rfl,m2,rfl⟩;rw [World.drewN_drewN];have hc3:=U HC (m+m2)) | (go_at_call 97;refine (U HF (m+m2)).mono ?_;rintro e w3 ⟨rfl,hp2,hf2⟩;have HP2:=V hp2;have HF2:=V hf2;clear hp2 hf2))
     try simp only[Exit.inBlock,Exit.then]
     first | go_end0 | (refine bodyPost_ret (results_none rfl _ _ _) rfl ?_)
     refine ⟨rfl,?_,(((FrX.refl p w).drewN (m+m2))).trans (U HF2)⟩
     rw [U HS];exact U HP2
   · have HS:Hid (openS T x S=nextS T { S with deep:=wrap64 (S.deep+1) }):=by show openS T x S=_;unfold openS;rw [if_pos hb,if_neg h30]
     have hd:(S.deep == 30)=false:=by simp [h30]
     have HN:=V (fun m=>next_any hT (((U HX).drewN m).deep (wrap64 (S.deep+1)) (wrap64_lo _) (wrap64_hi _)))
     have hf:∀ m,(w.drewN m).frozen? ⟨p,2,none⟩=false:=fun m=>((U HX).drewN m).frz 2
     clear hb h30
     go_enter Tryz.func178,Tryz.ntmps178
     go_wp2_with (first | (go_at_call 153;refine (U HG).mono ?_;rintro e w1 ⟨rfl,m,rfl⟩;have hc2:=U HC m;have hf2:=hf m) | (go_at_call 177;refine (U HW m).mono ?_;rintro e w2 ⟨rfl,m2,rfl⟩;rw [World.drewN_drewN];have hc3:=U HC (m+m2);have hf3:=hf (m+m2)) | (go_at_call 154;refine (U HN (m+m2)).mono ?_;rintro e w3 ⟨rfl,hp2,hf2⟩;have HP2:=V hp2;have HF2:=V hf2;clear hp2 hf2))
     try simp only[Exit.inBlock,Exit.then]
     first | go_end0 | (refine bodyPost_ret (results_none rfl _ _ _) rfl ?_)
     refine ⟨rfl,?_,(((FrX.refl p w).drewN (m+m2)).set _ _).trans (U HF2)⟩
     rw [U HS];exact U HP2
  | false=>
   have HS:Hid (openS T x S=failS T 1 S):=by
    show openS T x S=_
    unfold openS
    rw [h5,h2];rfl
   have HF:=V (fun m=>fail_any hT ((U HX).drewN m) 1 (by decide))
   rw [h2] at HW
   clear h5 h2
   go_enter Tryz.func178,Tryz.ntmps178
   go_wp2_with (first | (go_at_call 153;refine (U HG).mono ?_;rintro e w1 ⟨rfl,m,rfl⟩;have hc2:=U HC m) | (go_at_call 177;refine (U HW m).mono ?_;rintro e w2 ⟨rfl,m2,rfl⟩;rw [World.drewN_drewN];have hc3:=U HC (m+m2)) | (go_at_call 97;refine (U HF (m+m2)).mono ?_;rintro e w3 ⟨rfl,hp2,hf2⟩;have HP2:=V hp2;have HF2:=V hf2;clear hp2 hf2))
   try simp only[Exit.inBlock,Exit.then]
   first | go_end0 | (refine bodyPost_ret (results_none rfl _ _ _) rfl ?_)
   refine ⟨rfl,?_,(((FrX.refl p w).drewN (m+m2))).trans (U HF2)⟩
   rw [U HS];exact U HP2
theorem named_run {T:List Tk} {w:World} {p bt c:Nat} {S:PS} (h:PX T w p bt c S):Calls Tryz.prog 148 #[.pointer (some ⟨p,0,none⟩)] w fun e w'=>e=.returned (.bool (namedS T S))∧∃ m,w'=w.drewN m:=by
 have HU:=V (fun m=>ok_any (h.drewN m))
 obtain ⟨c0,c1,c2,c3,c4⟩:=h.cells
 obtain ⟨t0,t1,t2⟩:=h.tok h.lt
 have hlt:(S.i:Int) < (T.length:Int):=by have:=h.lt;omega
 have hi0:(0:Int) ≤ (S.i:Int):=by omega
 obtain ⟨tk,htk⟩:∃ tk,tk=T.getD S.i ⟨0,[],0⟩:=⟨_,rfl⟩
 rw [← htk] at t0
 have HE:Hid (namedS T S=(S.err == 0 && tk.kind == 1)):=by rw [htk];rfl
 have hk:((tk.kind:Int) == 1)=(tk.kind == 1):=by
  by_cases e:tk.kind=1
  · simp [e]
  · rw [beq_eq_false_iff_ne.2 (by omega:(tk.kind:Int) ≠ 1),beq_eq_false_iff_ne.2 e]
 have HK:=V hk
 clear h htk c2 c3 c4 t1 t2 hk
 cases hb:(S.err == 0) with
 | true=>
  rw [hb] at HU HE
  clear hb
  go_enter Tryz.func148,Tryz.ntmps148
  go_wp2_with fail
  go_quiet ((go_at_call 96;refine Calls.quiet_of_same (U HU _)))
  go_wp2_with fail
  go_ret
  exact ⟨xret_bool (by rw [U HE,← U HK];rfl),nq,rfl⟩
 | false=>
  rw [hb] at HU HE
  clear hb
  go_enter Tryz.func148,Tryz.ntmps148
  go_wp2_with fail
  go_quiet ((go_at_call 96;refine Calls.quiet_of_same (U HU _)))
  go_wp2_with fail
  go_ret
  exact ⟨xret_bool (by rw [U HE];rfl),nq,rfl⟩
theorem named_any {T:List Tk} {w:World} {p bt c:Nat} {S:PS} (h:PX T w p bt c S):Calls Tryz.prog 148 #[.pointer (some ⟨p,0,none⟩)] w fun e w'=>e=.returned (.bool (namedS T S))∧PX T w' p bt c S∧FrX p w w':=by
 refine (named_run h).mono ?_
 rintro e w' ⟨rfl,m,rfl⟩
 exact ⟨rfl,h.drewN m,(FrX.refl p w).drewN m⟩
theorem word_any {T:List Tk} {w:World} {p bt c:Nat} {S:PS} (h:PX T w p bt c S) (x:List UInt8):Calls Tryz.prog 177 #[.pointer (some ⟨p,0,none⟩),sv x] w fun e w'=>e=.returned (.bool (isS T 2 x S))∧PX T w' p bt c S∧FrX p w w':=by
 refine (word_run h x).mono ?_
 rintro e w' ⟨rfl,m,rfl⟩
 exact ⟨rfl,h.drewN m,(FrX.refl p w).drewN m⟩
theorem sign_any' {T:List Tk} {w:World} {p bt c:Nat} {S:PS} (h:PX T w p bt c S) (x:List UInt8):Calls Tryz.prog 153 #[.pointer (some ⟨p,0,none⟩),sv x] w fun e w'=>e=.returned (.bool (isS T 5 x S))∧PX T w' p bt c S∧FrX p w w':=by
 refine (sign_run h x).mono ?_
 rintro e w' ⟨rfl,m,rfl⟩
 exact ⟨rfl,h.drewN m,(FrX.refl p w).drewN m⟩
theorem ok_any' {T:List Tk} {w:World} {p bt c:Nat} {S:PS} (h:PX T w p bt c S):Calls Tryz.prog 96 #[.pointer (some ⟨p,0,none⟩)] w fun e w'=>e=.returned (.bool (S.err == 0))∧PX T w' p bt c S∧FrX p w w':=by
 refine (ok_any h).mono ?_
 rintro e w' ⟨rfl,rfl⟩
 exact ⟨rfl,h,FrX.refl p _⟩
/-- The text of the token that stands here. -/
theorem tkS_mem {T:List Tk} {S:PS} (h:S.i < T.length):tkS T S ∈ T:=by unfold tkS;rw [List.getD_eq_getElem?_getD,List.getElem?_eq_getElem h];exact List.getElem_mem _
theorem name_any {T:List Tk} {w:World} {p bt c:Nat} {S:PS} (hT:TG T) (h:PX T w p bt c S):Calls Tryz.prog 145 #[.pointer (some ⟨p,0,none⟩)] w fun e w'=>e=.returned (sv (nameS T S).1)∧PX T w' p bt c (nameS T S).2∧FrX p w w':=by
 have HX:=V h
 have hlt:(S.i:Int) < (T.length:Int):=by have:=h.lt;omega
 have hi0:(0:Int) ≤ (S.i:Int):=by omega
 have htl:(tkS T S).text.length ≤ 3000:=hT.text _ (tkS_mem h.lt)
 obtain ⟨r,hr⟩:∃ r,r=nameS T S:=⟨_,rfl⟩
 rw [← hr]
 have HR:=V hr
 obtain ⟨tx,htx⟩:∃ tx,tx=(tkS T S).text:=⟨_,rfl⟩
 have HTK:Hid ((T.getD S.i ⟨0,[],0⟩).text=tx):=htx.symm
 rw [← htx] at htl
 have HTX:=V htx
 clear h hr htx
 cases hb:namedS T S with
 | false=>
  have HS:Hid (r=([],failS T 1 S)):=by rw [U HR];show nameS T S=_;unfold nameS;rw [hb];rfl
  have HNB:=V hb
  rw [U HS]
  clear hb
  unfold sv
  go_enter Tryz.func145,Tryz.ntmps145
  go_wp2_with (first | (go_at_call 148;refine (named_any (U HX)).mono ?_;rw [U HNB];rintro e w1 ⟨rfl,hp1,hf1⟩;have HP1:=V hp1;have HF1:=V hf1;clear hp1 hf1) | (go_at_call 97;refine (fail_any hT (U HP1) 1 (by decide)).mono ?_;rintro e w3 ⟨rfl,hp2,hf2⟩;have HP2:=V hp2;have HF2:=V hf2;clear hp2 hf2))
  go_ret
  exact ⟨rfl,U HP2,(U HF1).trans (U HF2)⟩
 | true=>
  have HNB:=V hb
  by_cases h20:20 < tx.length
  · have HS:Hid (r=([],failS T 2 S)):=by rw [U HR];show nameS T S=_;unfold nameS;rw [hb,← U HTX,if_pos rfl,if_pos h20]
    have h20':(20:Int) < (tx.length:Int):=by omega
    rw [U HS]
    clear hb
    unfold sv at *
    go_enter Tryz.func145,Tryz.ntmps145
    go_wp2_with (go_at_call 148;refine (named_any (U HX)).mono ?_;rw [U HNB];rintro e w1 ⟨rfl,hp1,hf1⟩;obtain ⟨c0,c1,c2,c3,c4⟩:=hp1.cells;have t1:=(hp1.tok hp1.lt).2.1;rw [U HTK] at t1;have HP1:=V hp1;have HF1:=V hf1;clear hp1 hf1 c2 c3 c4)
    unfold sv at t1
    go_quiet (fail)
    go_wp2_with (go_at_call 97;refine (fail_any hT ((U HP1).drewN nq) 2 (by decide)).mono ?_;rintro e w3 ⟨rfl,hp2,hf2⟩;have HP2:=V hp2;have HF2:=V hf2;clear hp2 hf2)
    go_ret
    exact ⟨rfl,U HP2,((U HF1).drewN nq).trans (U HF2)⟩
  · have HS:Hid (r=(tx,nextS T S)):=by rw [U HR];show nameS T S=_;unfold nameS;rw [hb,← U HTX,if_pos rfl,if_neg h20]
    have h20':¬ (20:Int) < (tx.length:Int):=by omega
    rw [U HS]
    clear hb
    unfold sv at *
    go_enter Tryz.func145,Tryz.ntmps145
    go_wp2_with (go_at_call 148;refine (named_any (U HX)).mono ?_;rw [U HNB];rintro e w1 ⟨rfl,hp1,hf1⟩;obtain ⟨c0,c1,c2,c3,c4⟩:=hp1.cells;have t1:=(hp1.tok hp1.lt).2.1;rw [U HTK] at t1;have HP1:=V hp1;have HF1:=V hf1;clear hp1 hf1 c2 c3 c4)
    unfold sv at t1
    go_quiet (fail)
    go_wp2_with (go_at_call 154;refine (next_any hT ((U HP1).drewN nq)).mono ?_;rintro e w3 ⟨rfl,hp2,hf2⟩;have HP2:=V hp2;have HF2:=V hf2;clear hp2 hf2)
    go_ret
    exact ⟨rfl,U HP2,((U HF1).drewN nq).trans (U HF2)⟩
theorem begins_any {T:List Tk} {w:World} {p bt c:Nat} {S:PS} (h:PX T w p bt c S):Calls Tryz.prog 185 #[.pointer (some ⟨p,0,none⟩)] w fun e w'=>e=.returned (.bool (beginsS T S))∧PX T w' p bt c S∧FrX p w w':=by
 have HX:=V h
 have hlt:(S.i:Int) < (T.length:Int):=by have:=h.lt;omega
 have hi0:(0:Int) ≤ (S.i:Int):=by omega
 obtain ⟨c0,c1,c2,c3,c4⟩:=h.cells
 obtain ⟨t0,t1,t2⟩:=h.tok h.lt
 obtain ⟨tk,htk⟩:∃ tk,tk=T.getD S.i ⟨0,[],0⟩:=⟨_,rfl⟩
 rw [← htk] at t0 t1 t2
 have HTK:Hid (tkS T S=tk):=htk.symm
 have hpl:=ltX h.blk
 have hbl:=h.bt_lt
 clear c2 c3 c4 h htk
 obtain ⟨bs,hbs⟩:∃ bs,bs=beginsS T S:=⟨_,rfl⟩
 rw [← hbs]
 have HBS:Hid (bs=(if tk.kind=1 ∨ tk.kind=3 ∨ tk.kind=4 then true else if tk.kind=5 then tk.text == [40] || tk.text == [45] else if tk.kind=2 then tk.text == [78,79,84] || tk.text == [78,85,76,76] || tk.text == [84,82,85,69] || tk.text == [70,65,76,83,69] || tk.text == [67,65,83,69] || tk.text == [67,79,85,78,84] || tk.text == [83,85,77] || tk.text == [77,73,78] || tk.text == [77,65,88] else false)):=by rw [hbs,← U HTK];rfl
 clear hbs
 unfold sv at *
 go_enter Tryz.func185,Tryz.ntmps185
 go_wp2_with fail
 go_region
 have HB:Hid (Below w.heap.size w (w.alloc (.cells #[.int .i64 (tk.kind:Int),.string ⟨tk.text.toArray⟩,.int .i64 (tk.pos:Int)] 193)).drew):=((Below.refl _ _).alloc (Nat.le_refl _) _).drew
 have e0:(w.alloc (.cells #[.int .i64 (tk.kind:Int),.string ⟨tk.text.toArray⟩,.int .i64 (tk.pos:Int)] 193)).drew.cell? ⟨w.heap.size,0,none⟩=some (.int .i64 (tk.kind:Int)):=by simp
 have e1:(w.alloc (.cells #[.int .i64 (tk.kind:Int),.string ⟨tk.text.toArray⟩,.int .i64 (tk.pos:Int)] 193)).drew.cell? ⟨w.heap.size,1,none⟩=some (.string ⟨tk.text.toArray⟩):=by simp
 generalize (w.alloc (.cells #[.int .i64 (tk.kind:Int),.string ⟨tk.text.toArray⟩,.int .i64 (tk.pos:Int)] 193)).drew=W at *
 go_wp2_with fail
 all_goals
  go_ret
  refine ⟨xret_bool ?_,(U HX).below (U HB),FrX.of_below (U HB)⟩
  rw [U HBS]
  clear HBS HX HTK t0 t1 t2 c0 c1 e0 e1 HB hpl hbl hlt hi0
  simp only[beq_iff_eq,beq_eq_false_iff_ne,ne_eq] at *
  repeat' split
  all_goals first | rfl | omega | simp_all
theorem element_any {T:List Tk} {w:World} {p bt c:Nat} {S:PS} (hT:TG T) (h:PX T w p bt c S) (n:Nat):Calls Tryz.prog 187 #[.pointer (some ⟨p,0,none⟩),.int .i64 (n:Int)] w fun e w'=>e=.returned (.tuple #[])∧PX T w' p bt c (elementS T n S)∧FrX p w w':=by
 have HX:=V h
 have HU:=V (ok_any' h)
 clear h
 by_cases hc:S.err=0∧n=10∧beginsS T S=true
 · have HS:Hid (elementS T n S=failS T 2 S):=if_pos hc
   obtain ⟨h1,h2,h3⟩:=hc
   have hb:(S.err == 0)=true:=by simp [h1]
   rw [hb] at HU
   subst h2
   have HB:=V h3
   clear h1 h3 hb
   go_enter Tryz.func187,Tryz.ntmps187
   go_wp2_with (first | (go_at_call 96;refine (U HU).mono ?_;rintro e w1 ⟨rfl,hp1,hf1⟩;have HP1:=V hp1;have HF1:=V hf1;clear hp1 hf1) | (go_at_call 185;refine (begins_any (U HP1)).mono ?_;rw [U HB];rintro e w2 ⟨rfl,hp1,hf1⟩;have HP2:=V hp1;have HF2:=V hf1;clear hp1 hf1) | (go_at_call 97;refine (fail_any hT (U HP2) 2 (by decide)).mono ?_;rintro e w3 ⟨rfl,hp2,hf2⟩;have HP3:=V hp2;have HF3:=V hf2;clear hp2 hf2))
   go_end0
   rw [U HS]
   exact ⟨rfl,U HP3,((U HF1).trans (U HF2)).trans (U HF3)⟩
 · have HS:Hid (elementS T n S=S):=if_neg hc
   rw [U HS]
   cases hb:(S.err == 0) with
   | false=>
    rw [hb] at HU
    clear hb hc
    go_enter Tryz.func187,Tryz.ntmps187
    go_wp2_with (go_at_call 96;refine (U HU).mono ?_;rintro e w1 ⟨rfl,hp1,hf1⟩;have HP1:=V hp1;have HF1:=V hf1;clear hp1 hf1)
    go_end0
    exact ⟨rfl,U HP1,U HF1⟩
   | true=>
    rw [hb] at HU
    by_cases h2:n=10
    · subst h2
      have HB:Hid (beginsS T S=false):=by
       show beginsS T S=false
       have:¬ beginsS T S=true:=fun h3=>hc ⟨by simpa using hb,rfl,h3⟩
       simpa using this
      clear hb hc
      go_enter Tryz.func187,Tryz.ntmps187
      go_wp2_with (first | (go_at_call 96;refine (U HU).mono ?_;rintro e w1 ⟨rfl,hp1,hf1⟩;have HP1:=V hp1;have HF1:=V hf1;clear hp1 hf1) | (go_at_call 185;refine (begins_any (U HP1)).mono ?_;rw [U HB];rintro e w2 ⟨rfl,hp1,hf1⟩;have HP2:=V hp1;have HF2:=V hf1;clear hp1 hf1))
      go_end0
      exact ⟨rfl,U HP2,(U HF1).trans (U HF2)⟩
    · have h2b:((n:Int) == 10)=false:=by rw [beq_eq_false_iff_ne];omega
      clear hb hc h2
      go_enter Tryz.func187,Tryz.ntmps187
      go_wp2_with (go_at_call 96;refine (U HU).mono ?_;rintro e w1 ⟨rfl,hp1,hf1⟩;have HP1:=V hp1;have HF1:=V hf1;clear hp1 hf1)
      go_end0
      exact ⟨rfl,U HP1,U HF1⟩
theorem gt_run (a b:List UInt8) (W:World):Sem.run Tryz.prog (binOp BinOp.gtr 9 (.string ⟨a.toArray⟩) (.string ⟨b.toArray⟩)) W=.ok (.bool (gtL a b)) W:=by
 rw [str_gtr,ByteArray.toList_eq,ByteArray.toList_eq];rfl
theorem num_snoc (s:List UInt8) (k:Nat) (c:UInt8) (h:s[k]?=some c):numF (s.take (k+1))=IntKind.u64.wrap (IntKind.u64.wrap (10 * numF (s.take k))+((c.toNat:Int) - 48) % 256):=by
 rw [List.take_add_one,h,Option.toList_some]
 unfold numF
 rw [List.foldl_append]
 rfl
theorem number_any {T:List Tk} {w:World} {p bt c:Nat} {S:PS} (hT:TG T) (h:PX T w p bt c S) (most:List UInt8) (hm:most.length ≤ 100):Calls Tryz.prog 188 #[.pointer (some ⟨p,0,none⟩),sv most] w fun e w'=>e=.returned (.int .u64 (numberS T most S).1)∧PX T w' p bt c (numberS T most S).2∧FrX p w w':=by
 have HX:=V h
 have hlt:(S.i:Int) < (T.length:Int):=by have:=h.lt;omega
 have hi0:(0:Int) ≤ (S.i:Int):=by omega
 obtain ⟨c0,c1,_,_,_⟩:=h.cells
 obtain ⟨_,t1,_⟩:=h.tok h.lt
 have htl:(tkS T S).text.length ≤ 3000:=hT.text _ (tkS_mem h.lt)
 obtain ⟨s,hs⟩:∃ s,s=(tkS T S).text:=⟨_,rfl⟩
 have e:(T.getD S.i ⟨0,[],0⟩).text=s:=hs.symm
 rw [e] at t1
 rw [← hs] at htl
 have HSX:=V hs
 obtain ⟨r,hr⟩:∃ r,r=numberS T most S:=⟨_,rfl⟩
 rw [← hr]
 have HR:=V hr
 have hsl:(s.length:Int) ≤ 3000:=by omega
 have hml:(most.length:Int) ≤ 100:=by omega
 clear h hs e hr
 unfold sv at *
 by_cases hc:most.length < s.length ∨ (s.length=most.length∧gtL s most=true)
 · have HS:Hid (r=(0,failS T 2 S)):=by rw [U HR];show numberS T most S=_;unfold numberS;dsimp only;rw [← U HSX,if_pos hc]
   by_cases hl:s.length=most.length
   · have hg:gtL s most=true:=by rcases hc with h | h;omega;exact h.2
     have hgr:=fun W=>gt_run s most W
     rw [hg] at hgr
     have hlI:(s.length:Int)=(most.length:Int):=by omega
     clear hc hg
     go_enter Tryz.func188,Tryz.ntmps188
     go_wp2_with fail
     go_quiet (fail)
     go_wp2_with (go_at_call 97;refine (fail_any hT ((U HX).drewN nq) 2 (by decide)).mono ?_;rintro e w3 ⟨rfl,hp2,hf2⟩;have HP2:=V hp2;have HF2:=V hf2;clear hp2 hf2)
     go_ret
     rw [U HS]
     exact ⟨rfl,U HP2,((FrX.refl p w).drewN nq).trans (U HF2)⟩
   · have hg:(most.length:Int) < (s.length:Int):=by omega
     clear hc
     go_enter Tryz.func188,Tryz.ntmps188
     go_wp2_with fail
     go_quiet (fail)
     go_wp2_with (go_at_call 97;refine (fail_any hT ((U HX).drewN nq) 2 (by decide)).mono ?_;rintro e w3 ⟨rfl,hp2,hf2⟩;have HP2:=V hp2;have HF2:=V hf2;clear hp2 hf2)
     go_ret
     rw [U HS]
     exact ⟨rfl,U HP2,((FrX.refl p w).drewN nq).trans (U HF2)⟩
 · have HS:Hid (r=(numF s,S)):=by rw [U HR];show numberS T most S=_;unfold numberS;dsimp only;rw [← U HSX,if_neg hc]
   have hc1:¬ (most.length:Int) < (s.length:Int):=by omega
   by_cases hl:s.length=most.length
   · have hg:gtL s most=false:=by
      have:¬ gtL s most=true:=fun h=>hc (.inr ⟨hl,h⟩)
      simpa using this
     have hgr:=fun W=>gt_run s most W
     rw [hg] at hgr
     have hlI:(s.length:Int)=(most.length:Int):=by omega
     clear hc hg
     go_enter Tryz.func188,Tryz.ntmps188
     go_wp2_with fail
     go_quiet (fail)
     go_wp2_with fail
     go_loopw [6,7] (fun n i wr=>∃ k:Nat,k ≤ s.length∧i=.int .i64 (k:Int)∧n=.int .u64 (numF (s.take k))∧wr=w.drewN nq) (fun _ i _=>s.length - (intOf i).toNat)
     case atStart=>exact ⟨0,by omega,rfl,rfl,rfl⟩
     case round=>
      obtain ⟨k,hk,rfl,rfl,rfl⟩:=hrel
      by_cases hlt:k < s.length
      · obtain ⟨x,hx⟩:∃ x,s[k]?=some x:=⟨s[k],List.getElem?_eq_getElem hlt⟩
        have hij:=idx_run s k _ x (w.drewN nq) rfl hx
        have hkI:(k:Int) < (s.length:Int):=by omega
        have hk0:(0:Int) ≤ (k:Int):=by omega
        have HNX:=V (num_snoc s k x hx)
        clear hx
        go_wp2_with fail
        go_roundw
        case rel=>exact ⟨k+1,by omega,by go_num,by rw [U HNX],trivial⟩
        case measure=>simp [intOf];omega
      · have hkI:¬ (k:Int) < (s.length:Int):=by omega
        have hke:s.take k=s:=List.take_of_length_le (by omega)
        rw [hke]
        clear hke
        go_wp2_with fail
        go_ret
        rw [U HS]
        exact ⟨rfl,(U HX).drewN nq,(FrX.refl p w).drewN nq⟩
   · have hlI:((s.length:Int) == (most.length:Int))=false:=by rw [beq_eq_false_iff_ne];omega
     clear hc
     go_enter Tryz.func188,Tryz.ntmps188
     go_wp2_with fail
     go_quiet (fail)
     go_wp2_with fail
     go_loopw [6,7] (fun n i wr=>∃ k:Nat,k ≤ s.length∧i=.int .i64 (k:Int)∧n=.int .u64 (numF (s.take k))∧wr=w.drewN nq) (fun _ i _=>s.length - (intOf i).toNat)
     case atStart=>exact ⟨0,by omega,rfl,rfl,rfl⟩
     case round=>
      obtain ⟨k,hk,rfl,rfl,rfl⟩:=hrel
      by_cases hlt:k < s.length
      · obtain ⟨x,hx⟩:∃ x,s[k]?=some x:=⟨s[k],List.getElem?_eq_getElem hlt⟩
        have hij:=idx_run s k _ x (w.drewN nq) rfl hx
        have hkI:(k:Int) < (s.length:Int):=by omega
        have hk0:(0:Int) ≤ (k:Int):=by omega
        have HNX:=V (num_snoc s k x hx)
        clear hx
        go_wp2_with fail
        go_roundw
        case rel=>exact ⟨k+1,by omega,by go_num,by rw [U HNX],trivial⟩
        case measure=>simp [intOf];omega
      · have hkI:¬ (k:Int) < (s.length:Int):=by omega
        have hke:s.take k=s:=List.take_of_length_le (by omega)
        rw [hke]
        clear hke
        go_wp2_with fail
        go_ret
        rw [U HS]
        exact ⟨rfl,(U HX).drewN nq,(FrX.refl p w).drewN nq⟩
end Go.Proofs.YtpnonhjmpnbmcaaGreatDoor
