/- The document's lexer: Tokens. -/
import Derived.Test.YtpnonhjmpnbmcaaGreatDoorJXLex6XMemXPar0
namespace Go.Proofs.YtpnonhjmpnbmcaaGreatDoor
open Go.RowKit Go.Lib
open Act (put)
set_option maxHeartbeats 12800000
set_option maxRecDepth 100000
/-- What Tokens tells of a text that isn't too long. -/
def TokR (w0:World) (n:Nat) (R:Except Nat (List Tk)) (e:Ending) (w':World):Prop:=match R with
 | .error p=>e=.returned (.tuple #[.slice none 0 0,.int .i64 (p:Int),.int .i64 1])∧Below w0.heap.size w0 w'
 | .ok ts=>∃ a c,e=.returned (.tuple #[.slice a (ts.length+1) c,.int .i64 0,.int .i64 0])∧OWX w0 w' a (ts.length+1) c (ts ++ [⟨0,[],n⟩])
def TokP (w0:World) (l:List UInt8) (e:Ending) (w':World):Prop:=
 if 2000 < l.length then e=.returned (.tuple #[.slice none 0 0,.int .i64 0,.int .i64 2])∧w'=w0 else TokR w0 l.length (lexL l 0) e w'
theorem kd1:∀ c:UInt8,kd c=1→c=32 ∨ c=9 ∨ c=10 ∨ c=13:=byte_all (by decide +kernel)
theorem nkd1:∀ c:UInt8,kd c ≠ 1→((c.toNat:Int) == 32)=false∧((c.toNat:Int) == 9)=false∧((c.toNat:Int) == 10)=false∧((c.toNat:Int) == 13)=false:=byte_all (by decide +kernel)
theorem kd5:∀ c:UInt8,kd c=5→c=45:=byte_all (by decide +kernel)
theorem nkd5:∀ c:UInt8,kd c ≠ 5→((c.toNat:Int) == 45)=false:=byte_all (by decide +kernel)
theorem kd4:∀ c:UInt8,kd c=4→c=39:=byte_all (by decide +kernel)
theorem nkd4:∀ c:UInt8,kd c ≠ 4→((c.toNat:Int) == 39)=false:=byte_all (by decide +kernel)
theorem neI {c d:UInt8} (h:c ≠ d) (n:Int) (hn:(d.toNat:Int)=n):((c.toNat:Int) == n)=false∧((c.toNat:Int) != n)=true:=by
 have h':(c.toNat:Int) ≠ n:=fun e=>h (UInt8.toNat_inj.1 (by omega))
 exact ⟨by simpa using h',by simpa using h'⟩
theorem drop_cons {l:List UInt8} {k:Nat} {c:UInt8} (hc:l[k]?=some c):l.drop k=c :: l.drop (k+1):=by
 have hlt:=(List.getElem?_eq_some_iff.1 hc).1
 rw [List.drop_eq_getElem_cons hlt,(List.getElem?_eq_some_iff.1 hc).2]
theorem piece_word {l:List UInt8} {k:Nat} {c:UInt8} (hd:l.drop k=c :: l.drop (k+1)) (h:kd c=2):pieceL (l.drop k)=.ok (1,((l.drop k).takeWhile (goK 2)).length):=by
 rw [hd,pieceL,if_neg (by omega),if_pos h,List.takeWhile_cons_of_pos (kd2_go c h)];rfl
theorem piece_num {l:List UInt8} {k:Nat} {c:UInt8} (hd:l.drop k=c :: l.drop (k+1)) (h:kd c=3):pieceL (l.drop k)=.ok (3,((l.drop k).takeWhile (goK 3)).length):=by
 rw [hd,pieceL,if_neg (by omega),if_neg (by omega),if_pos h,List.takeWhile_cons_of_pos (by simp [goK,h])];rfl
theorem piece_note {l:List UInt8} {k:Nat} (h:l[k]?=some 45) (h2:l[k+1]?=some 45):∃ n,pieceL (l.drop k)=.ok (0,n)∧LineX l k n k:=by
 have hlt:=(List.getElem?_eq_some_iff.1 h).1
 refine ⟨(idx 10 (l.drop k)).getD (l.length - k),?_,Nat.le_refl _,Nat.le_of_lt hlt,by simp⟩
 have e:(l.drop (k+1)).length+1=l.length - k:=by rw [List.length_drop];omega
 rw [← e,drop_cons h,drop_cons h2]
 rfl
theorem piece_sign' {l:List UInt8} {k:Nat} {c:UInt8} (hd:l.drop k=c :: l.drop (k+1)) (h1:kd c ≠ 1) (h2:kd c ≠ 2) (h3:kd c ≠ 3) (h4:kd c ≠ 4) (h5:kd c=5→(l.drop (k+1)).head? ≠ some 45) :
 pieceL (l.drop k)=if sgN (l.drop k)=0 then .error 0 else .ok (5,sgN (l.drop k)):=by
 have hs:sgN (l.drop k)=if kd c=5 then 1 else if kd c=6 then sgL (c :: l.drop (k+1)) else 0:=by rw [hd];rfl
 have hp:pieceL (l.drop k)=if kd c=5 then (if (l.drop (k+1)).head?=some 45 then .ok (0,(idx 10 (c :: l.drop (k+1))).getD ((l.drop (k+1)).length+1)) else .ok (5,1)) else if kd c=6 then (if sgL (c :: l.drop (k+1))=0 then .error 0 else .ok (5,sgL (c :: l.drop (k+1)))) else .error 0:=by
  rw [hd,pieceL,if_neg h1,if_neg h2,if_neg h3,if_neg h4]
 by_cases e5:kd c=5
 · rw [if_pos e5] at hs hp
   rw [if_neg (h5 e5)] at hp
   rw [hs,hp];rfl
 · rw [if_neg e5] at hs hp
   by_cases e6:kd c=6
   · rw [if_pos e6] at hs hp
     rw [hs,hp]
   · rw [if_neg e6] at hs hp
     rw [hs,hp];rfl
theorem piece_quote {l:List UInt8} {k:Nat} (hd:l.drop k=39 :: l.drop (k+1)):match qR (l.drop (k+1)) (k+1) [] none with
 | none=>pieceL (l.drop k)=.error 0
 | some (t,n,none)=>pieceL (l.drop k)=.ok (4,n - k)∧tokL 4 ((l.drop k).take (n - k))=(4,t)∧k < n∧n ≤ l.length
 | some (_,_,some z)=>pieceL (l.drop k)=.error (z - k)∧k < z:=by
 have hp:pieceL (l.drop k)=match qEnd (l.drop (k+1)) with
  | none=>.error 0
  | some n=>match idx 0 ((l.drop (k+1)).take n) with
   | none=>.ok (4,n+1)
   | some i=>.error (i+1):=by rw [hd];rfl
 unfold qR
 cases hq:qEnd (l.drop (k+1)) with
 | none=>rw [hq] at hp;exact hp
 | some n=>
  rw [hq] at hp
  have hb:=qEnd_bounds _ _ hq
  have hlen:=congrArg List.length hd
  simp only[List.length_drop,List.length_cons] at hlen hb
  cases hi:idx 0 ((l.drop (k+1)).take n) with
  | none=>
   simp only[hi] at hp
   simp only[hi,Option.map_none]
   refine ⟨by rw [hp,show k+1+n - k=n+1 by omega],?_,by omega,by omega⟩
   rw [show k+1+n - k=n+1 by omega,hd,List.take_succ_cons]
   show (4,unq ((List.drop 1 (39 :: List.take n (List.drop (k+1) l))).take ((39 :: List.take n (List.drop (k+1) l)).length - 2)))=_
   simp only[List.drop_succ_cons,List.drop_zero,List.length_cons,List.length_take,List.length_drop,List.nil_append,List.take_take]
   rw [show min (min n (l.length - (k+1))+1 - 2) n=n - 1 by omega]
  | some i=>
   simp only[hi] at hp
   simp only[hi,Option.map_some]
   exact ⟨by rw [hp,show i+(k+1) - k=i+1 by omega],by omega⟩
theorem tokens_any (l:List UInt8) (w:World):Calls Tryz.prog 93 #[sv l] w (TokP w l):=by
 by_cases hbig:2000 < l.length
 · have hl':(2000:Int) < (l.length:Int):=by omega
   have HP:Hid (∀ e w',e=.returned (.tuple #[.slice none 0 0,.int .i64 0,.int .i64 2])∧w'=w→TokP w l e w'):=fun e w' h=>by unfold TokP;rw [if_pos hbig];exact h
   obtain ⟨P,hP⟩:∃ P,P=TokP w l:=⟨_,rfl⟩
   rw [← hP] at HP ⊢
   clear hP hbig
   unfold sv
   go_enter Tryz.func93,Tryz.ntmps93
   go_wp2_with fail
   go_ret3
   exact U HP _ _ ⟨rfl,rfl⟩
 obtain ⟨R,hR⟩:∃ R,R=lexL l 0:=⟨_,rfl⟩
 have HP:Hid (∀ e w',TokR w l.length R e w'→TokP w l e w'):=fun e w' h=>by
  unfold TokP
  rw [if_neg hbig,← hR];exact h
 have hl':(l.length:Int) ≤ 2000:=by omega
 have HR:Hid (R=joinT [] (lexL (l.drop 0) 0)):=by rw [joinT_nil];exact hR
 obtain ⟨P,hP⟩:∃ P,P=TokP w l:=⟨_,rfl⟩
 rw [← hP] at HP ⊢
 clear hR hP hbig
 unfold sv
 go_enter Tryz.func93,Tryz.ntmps93
 go_wp2_with fail
 go_loopw [5,6] (fun s i wr=>∃ (k m:Nat) (a:Option Addr) (c:Nat),k ≤ l.length∧i=.int .i64 (k:Int)∧s=.slice a m c∧m ≤ k∧∃ acc,Hid (OWX w wr a m c acc)∧Hid (R=joinT acc (lexL (l.drop k) k))) (fun _ i _=>l.length - (intOf i).toNat)
 case atStart=>exact ⟨0,0,none,0,by omega,rfl,rfl,by omega,[],OWX.none w,HR⟩
 case round=>
  obtain ⟨k,m,a,cp,hk,rfl,rfl,hmk,acc,HO,HQ0⟩:=hrel
  clear HR
  by_cases hlt:k < l.length
  · have hlt':(k:Int) < (l.length:Int):=by omega
    have hk0:(0:Int) ≤ (k:Int):=by omega
    obtain ⟨c,hc⟩:∃ c,l[k]?=some c:=⟨l[k],List.getElem?_eq_getElem hlt⟩
    have hd:=drop_cons hc
    have hi:=idx_run l k _ c wr rfl hc
    have HC:=V hc
    have HD:=V hd
    clear hc hd
    by_cases h1:kd c=1
    · have HQ:Hid (R=joinT acc (lexL (l.drop (k+1)) (k+1))):=by
       have hp:pieceL (l.drop k)=.ok (0,1):=by rw [U HD,pieceL,if_pos h1]
       have h:=(U HQ0).trans (joinT_step acc k hp)
       rw [if_pos rfl,List.drop_drop] at h
       exact h
      rcases kd1 c h1 with rfl | rfl | rfl | rfl <;>
      · clear h1
        as_aux_lemma=>
         go_wp2_with fail
         go_roundw
         case rel=>exact ⟨k+1,_,_,_,by omega,rfl,rfl,by omega,_,HO,HQ⟩
         case measure=>simp [intOf];omega
    obtain ⟨n1,n2,n3,n4⟩:=nkd1 c h1
    have HL:=V letter_any
    have HG:=V digit_any
    by_cases h5:kd c=5
    · have e5:=kd5 c h5
      have hc45:((c.toNat:Int) == 45)=true:=by rw [e5];rfl
      have hkd2:(kd c == 2)=false:=by rw [h5];rfl
      have hkd3:(kd c == 3)=false:=by rw [h5];rfl
      have n4':=nkd4 c (by omega)
      by_cases hn2:k+1 < l.length
      · obtain ⟨d,hdd⟩:∃ d,l[k+1]?=some d:=⟨l[k+1],List.getElem?_eq_getElem hn2⟩
        have hn2':(k:Int)+1 < (l.length:Int):=by omega
        have hi2:=idx_run l (k+1) ((k:Int)+1) d wr (by omega) hdd
        by_cases hd45:d=45
        · subst hd45
          obtain ⟨n,hp,hline⟩:=piece_note (by rw [U HC,e5]) hdd
          have hsz:=piece_size hp
          rw [List.length_drop] at hsz
          have HQ:Hid (R=joinT acc (lexL (l.drop (k+n)) (k+n))):=by
           have h:=(U HQ0).trans (joinT_step acc k hp)
           rw [if_pos rfl,List.drop_drop] at h
           exact h
          have HN:=V hline
          have hb1:k+n ≤ l.length:=by omega
          have hb2:1 ≤ n:=hsz.1
          clear hp hline hsz hdd HQ0 HD HC h1 h5 e5 hkd2 hkd3 n4'
          as_aux_lemma=>
           go_wp2_with fail
           go_loopw [6] (fun i wx=>∃ j:Nat,i=.int .i64 (j:Int)∧wx=wr∧j ≤ l.length∧Hid (LineX l k n j)) (fun i _=>l.length - (intOf i).toNat)
           case atStart=>exact ⟨k,rfl,rfl,by omega,HN⟩
           case round=>
            obtain ⟨j,rfl,rfl,hjl,HN2⟩:=hrel
            clear HN hi hi2
            by_cases hj:j < l.length
            · obtain ⟨x,hx⟩:∃ x,l[j]?=some x:=⟨l[j],List.getElem?_eq_getElem hj⟩
              have hj':(j:Int) < (l.length:Int):=by omega
              have hij:=idx_run l j _ x wr rfl hx
              by_cases hx10:x=10
              · have hje:=(U HN2).stop (fun y hy=>by rw [hx] at hy;cases hy;exact hx10)
                subst hx10
                have hkj1:k+1 ≤ j:=by omega
                have HQ':Hid (R=joinT acc (lexL (l.drop j) j)):=by rw [hje];exact HQ
                replace HQ:=HQ'
                clear hx HN2 hje HQ'
                go_wp2_with fail
                go_roundw
                case rel=>exact ⟨j,_,_,_,by omega,rfl,rfl,by omega,_,HO,HQ⟩
                case measure=>simp [intOf];omega
              · have HN3:=V ((U HN2).next hx hx10)
                have hq:=(neI hx10 10 rfl).2
                clear hx HN2
                go_wp2_with fail
                go_roundw
                case rel=>first | exact ⟨j+1,by go_num,rfl,by omega,HN3⟩ | exact ⟨j+1,by go_num,trivial,by omega,HN3⟩ | exact ⟨j+1,by go_num,by omega,HN3⟩
                case measure=>simp [intOf];omega
            · have hje:=(U HN2).stop (fun y hy=>absurd (List.getElem?_eq_some_iff.1 hy).1 hj)
              have hj':¬ (j:Int) < (l.length:Int):=by omega
              have hkj1:k+1 ≤ j:=by omega
              have HQ':Hid (R=joinT acc (lexL (l.drop j) j)):=by rw [hje];exact HQ
              replace HQ:=HQ'
              clear HN2 hje HQ'
              go_wp2_with fail
              go_roundw
              case rel=>exact ⟨j,_,_,_,by omega,rfl,rfl,by omega,_,HO,HQ⟩
              case measure=>simp [intOf];omega
        · have hd45':=(neI hd45 45 rfl).1
          have hQ1:=piece_sign' (U HD) h1 (by rw [h5];decide) (by rw [h5];decide) (by rw [h5];decide) (fun _=>by rw [drop_cons hdd];simpa using hd45)
          clear hdd h1 h5 e5
          as_aux_lemma=>
           have HQ1:=V hQ1
           have HW:=V (sign_any l k wr (by omega) hlt)
           by_cases hz:sgN (l.drop k)=0
           · have HE:Hid (R=.error k):=by
              have h:=lexL_error k (by rw [U HD];exact List.cons_ne_nil _ _) ((U HQ1).trans (if_pos hz))
              rw [U HQ0,h];rfl
             rw [hz,List.take_zero] at HW
             unfold sv at HW
             clear hQ1 HQ1 HD HC hz HQ0
             go_wp2_with (first | (go_at_call 140;refine (U HL _ _).mono ?_;rintro e w1 ⟨rfl,hw⟩;replace hw:=hw.symm;subst hw) | (go_at_call 132;refine (U HG _ _).mono ?_;rintro e w1 ⟨rfl,hw⟩;replace hw:=hw.symm;subst hw) | (go_at_call 142;refine (U HW).mono ?_;rintro e w1 ⟨rfl,hw⟩;replace hw:=hw.symm;subst hw))
             go_ret3
             refine U HP _ _ ?_
             rw [U HE]
             exact ⟨rfl,(U HO).low⟩
           · obtain ⟨n,hn⟩:∃ n,n=sgN (l.drop k):=⟨_,rfl⟩
             have hp:pieceL (l.drop k)=.ok (5,n):=by rw [U HQ1,if_neg hz,hn]
             have hsz:=piece_size hp
             rw [List.length_drop] at hsz
             obtain ⟨x,hx⟩:∃ x,x=(l.drop k).take n:=⟨_,rfl⟩
             have hxl:x.length=n:=by rw [hx,List.length_take,List.length_drop];omega
             have HQ:Hid (R=joinT (acc ++ [⟨5,x,k⟩]) (lexL (l.drop (k+n)) (k+n))):=by
              have h:=(U HQ0).trans (joinT_step acc k hp)
              rw [if_neg (by decide),List.drop_drop,tok5,← hx] at h
              exact h
             rw [← hn,← hx] at HW
             unfold sv at HW
             have hxe:(x == [])=false:=by cases x with | nil=>simp at hxl;omega | cons _ _=>rfl
             have hxi:(x.length:Int)=(n:Int):=by omega
             have hb1:k+n ≤ l.length:=by omega
             have hb2:1 ≤ n:=hsz.1
             clear hQ1 HQ1 HD HC hz HQ0 hn hx hp hsz hxl
             go_wp2_with (first | (go_at_call 140;refine (U HL _ _).mono ?_;rintro e w1 ⟨rfl,hw⟩;replace hw:=hw.symm;subst hw) | (go_at_call 132;refine (U HG _ _).mono ?_;rintro e w1 ⟨rfl,hw⟩;replace hw:=hw.symm;subst hw) | (go_at_call 142;refine (U HW).mono ?_;rintro e w1 ⟨rfl,hw⟩;replace hw:=hw.symm;subst hw) | (at_builtin;refine append_tk rfl (.tmp 32) (.tmp 36) rfl (U HO) rfl rfl (by omega) 5 (k:Int) x ⟨5,x,k⟩ rfl ?_;intro ad2 k2 w2 ho2;have HO2:=V ho2;clear ho2))
             go_roundw
             case rel=>exact ⟨k+n,_,_,_,by omega,rfl,rfl,by omega,_,HO2,HQ⟩
             case measure=>simp [intOf];omega
      · have hn2':¬ (k:Int)+1 < (l.length:Int):=by omega
        have hQ1:=piece_sign' (U HD) h1 (by rw [h5];decide) (by rw [h5];decide) (by rw [h5];decide) (fun _=>by rw [List.drop_eq_nil_of_le (by omega)];simp)
        clear h1 h5 e5
        as_aux_lemma=>
         have HQ1:=V hQ1
         have HW:=V (sign_any l k wr (by omega) hlt)
         by_cases hz:sgN (l.drop k)=0
         · have HE:Hid (R=.error k):=by
            have h:=lexL_error k (by rw [U HD];exact List.cons_ne_nil _ _) ((U HQ1).trans (if_pos hz))
            rw [U HQ0,h];rfl
           rw [hz,List.take_zero] at HW
           unfold sv at HW
           clear hQ1 HQ1 HD HC hz HQ0
           go_wp2_with (first | (go_at_call 140;refine (U HL _ _).mono ?_;rintro e w1 ⟨rfl,hw⟩;replace hw:=hw.symm;subst hw) | (go_at_call 132;refine (U HG _ _).mono ?_;rintro e w1 ⟨rfl,hw⟩;replace hw:=hw.symm;subst hw) | (go_at_call 142;refine (U HW).mono ?_;rintro e w1 ⟨rfl,hw⟩;replace hw:=hw.symm;subst hw))
           go_ret3
           refine U HP _ _ ?_
           rw [U HE]
           exact ⟨rfl,(U HO).low⟩
         · obtain ⟨n,hn⟩:∃ n,n=sgN (l.drop k):=⟨_,rfl⟩
           have hp:pieceL (l.drop k)=.ok (5,n):=by rw [U HQ1,if_neg hz,hn]
           have hsz:=piece_size hp
           rw [List.length_drop] at hsz
           obtain ⟨x,hx⟩:∃ x,x=(l.drop k).take n:=⟨_,rfl⟩
           have hxl:x.length=n:=by rw [hx,List.length_take,List.length_drop];omega
           have HQ:Hid (R=joinT (acc ++ [⟨5,x,k⟩]) (lexL (l.drop (k+n)) (k+n))):=by
            have h:=(U HQ0).trans (joinT_step acc k hp)
            rw [if_neg (by decide),List.drop_drop,tok5,← hx] at h
            exact h
           rw [← hn,← hx] at HW
           unfold sv at HW
           have hxe:(x == [])=false:=by cases x with | nil=>simp at hxl;omega | cons _ _=>rfl
           have hxi:(x.length:Int)=(n:Int):=by omega
           have hb1:k+n ≤ l.length:=by omega
           have hb2:1 ≤ n:=hsz.1
           clear hQ1 HQ1 HD HC hz HQ0 hn hx hp hsz hxl
           go_wp2_with (first | (go_at_call 140;refine (U HL _ _).mono ?_;rintro e w1 ⟨rfl,hw⟩;replace hw:=hw.symm;subst hw) | (go_at_call 132;refine (U HG _ _).mono ?_;rintro e w1 ⟨rfl,hw⟩;replace hw:=hw.symm;subst hw) | (go_at_call 142;refine (U HW).mono ?_;rintro e w1 ⟨rfl,hw⟩;replace hw:=hw.symm;subst hw) | (at_builtin;refine append_tk rfl (.tmp 32) (.tmp 36) rfl (U HO) rfl rfl (by omega) 5 (k:Int) x ⟨5,x,k⟩ rfl ?_;intro ad2 k2 w2 ho2;have HO2:=V ho2;clear ho2))
           go_roundw
           case rel=>exact ⟨k+n,_,_,_,by omega,rfl,rfl,by omega,_,HO2,HQ⟩
           case measure=>simp [intOf];omega
    have n5:=nkd5 c h5
    by_cases h2:kd c=2
    · have hp:=piece_word (U HD) h2
      have hsz:=piece_size hp
      rw [List.length_drop] at hsz
      have HN:Hid (RunX (goK 2) l k ((l.drop k).takeWhile (goK 2)).length k):=RunX.begin (by omega)
      obtain ⟨n,hn⟩:∃ n,n=((l.drop k).takeWhile (goK 2)).length:=⟨_,rfl⟩
      rw [← hn] at hp hsz HN
      have hkd2:(kd c == 2)=true:=by simp [h2]
      obtain ⟨tok,htok⟩:∃ tok,tok=(l.drop k).take n:=⟨_,rfl⟩
      have htl:tok.length=n:=by rw [htok,List.length_take,List.length_drop];omega
      have HQ1:Hid (R=joinT (acc ++ [⟨(tokL 1 tok).1,(tokL 1 tok).2,k⟩]) (lexL (l.drop (k+n)) (k+n))):=by
       have h:=(U HQ0).trans (joinT_step acc k hp)
       rw [if_neg (by decide),List.drop_drop,← htok] at h
       exact h
      have hb1:k+n ≤ l.length:=by omega
      have hb2:1 ≤ n:=hsz.1
      have HT:=V htok
      have HTL:=V htl
      have HK1:=V (fun W=>cased_any true tok W (by omega))
      have HK2:=V (fun W=>cased_any false tok W (by omega))
      have HI:=V (fun W=>isWord_any (upL tok) W)
      simp only[if_true,if_false,Bool.false_eq_true] at HK1 HK2
      unfold sv at HK1 HK2 HI
      clear hp hsz hn htok htl HQ0 HD HC h1 h5 h2
      as_aux_lemma=>
       go_wp2_with (go_at_call 140;refine (U HL _ _).mono ?_;rintro e w1 ⟨rfl,hw⟩;replace hw:=hw.symm;subst hw)
       go_loopw [6] (fun i wx=>∃ j:Nat,i=.int .i64 (j:Int)∧wx=wr∧k ≤ j∧j ≤ l.length∧Hid (RunX (goK 2) l k n j)) (fun i _=>l.length - (intOf i).toNat)
       case atStart=>exact ⟨k,rfl,rfl,by omega,by omega,HN⟩
       case round=>
        obtain ⟨j,rfl,rfl,hkj,hjl,HN2⟩:=hrel
        clear HN hi
        by_cases hj:j < l.length
        · obtain ⟨x,hx⟩:∃ x,l[j]?=some x:=⟨l[j],List.getElem?_eq_getElem hj⟩
          have hj':(j:Int) < (l.length:Int):=by omega
          have hij:=idx_run l j _ x wr rfl hx
          by_cases hx2:kd x=2
          · have HN3:=V ((U HN2).next hx (kd2_go x hx2))
            have hb:(kd x == 2)=true:=by simp [hx2]
            clear hx HN2 hx2
            go_wp2_with (go_at_call 140;refine (U HL _ _).mono ?_;rintro e w1 ⟨rfl,hw⟩;replace hw:=hw.symm;subst hw)
            go_roundw
            case rel=>first | exact ⟨j+1,by go_num,rfl,by omega,by omega,HN3⟩ | exact ⟨j+1,by go_num,trivial,by omega,by omega,HN3⟩ | exact ⟨j+1,by go_num,by omega,by omega,HN3⟩
            case measure=>simp [intOf];omega
          · have hb:(kd x == 2)=false:=by simp [hx2]
            by_cases hx3:kd x=3
            · have HN3:=V ((U HN2).next hx (by simp [goK,hx3]))
              have hb3:(kd x == 3)=true:=by simp [hx3]
              clear hx HN2 hx2 hx3
              go_wp2_with (first | (go_at_call 140;refine (U HL _ _).mono ?_;rintro e w1 ⟨rfl,hw⟩;replace hw:=hw.symm;subst hw) | (go_at_call 132;refine (U HG _ _).mono ?_;rintro e w1 ⟨rfl,hw⟩;replace hw:=hw.symm;subst hw))
              go_roundw
              case rel=>first | exact ⟨j+1,by go_num,rfl,by omega,by omega,HN3⟩ | exact ⟨j+1,by go_num,trivial,by omega,by omega,HN3⟩ | exact ⟨j+1,by go_num,by omega,by omega,HN3⟩
              case measure=>simp [intOf];omega
            · have hb3:(kd x == 3)=false:=by simp [hx3]
              have hje:=(U HN2).stop (fun y hy=>by rw [hx] at hy;cases hy;simp [goK,hb,hb3])
              clear hx HN2 hx2 hx3
              have hs:=sub_run l k j (k:Int) (j:Int) wr rfl rfl (by omega) (by omega)
              rw [show j - k=n by omega,← U HT] at hs
              cases hw:wordsL.contains (upL tok) with
              | true=>
               have HQ:Hid (R=joinT (acc ++ [⟨2,upL tok,k⟩]) (lexL (l.drop j) j)):=by
                have h:=U HQ1
                rw [tokL,if_pos rfl,if_pos hw,← hje] at h
                exact h
               rw [hw] at HI
               have hkj1:k+1 ≤ j:=by omega
               clear hw HQ1 HK2 hje
               go_wp2_with (first | (go_at_call 140;refine (U HL _ _).mono ?_;rintro e w1 ⟨rfl,hw⟩;replace hw:=hw.symm;subst hw) | (go_at_call 132;refine (U HG _ _).mono ?_;rintro e w1 ⟨rfl,hw⟩;replace hw:=hw.symm;subst hw) | (go_at_call 134;refine (U HK1 _).mono ?_;rintro e w1 ⟨rfl,hb1x⟩;have HO1:=V ((U HO).go hb1x);clear hb1x) | (go_at_call 133;refine (U HI _).mono ?_;rintro e w3 ⟨rfl,hb2x⟩;have HO3:=V ((U HO1).go hb2x);clear hb2x) | (at_builtin;refine append_tk rfl (.tmp 116) (.tmp 120) rfl (U HO3) rfl rfl (by omega) 2 (k:Int) (upL tok) ⟨2,upL tok,k⟩ rfl ?_;intro ad2 k2 w2 ho2;have HO2:=V ho2;clear ho2))
               go_roundw
               case rel=>exact ⟨j,_,_,_,by omega,rfl,rfl,by omega,_,HO2,HQ⟩
               case measure=>simp [intOf];omega
              | false=>
               have HQ:Hid (R=joinT (acc ++ [⟨1,loL tok,k⟩]) (lexL (l.drop j) j)):=by
                have h:=U HQ1
                rw [tokL,if_pos rfl,if_neg (by rw [hw];decide),← hje] at h
                exact h
               rw [hw] at HI
               have HS3:=V (fun W=>sub_run l k j (k:Int) (j:Int) W rfl rfl (by omega) (by omega))
               rw [show j - k=n by omega,← U HT] at HS3
               have hkj1:k+1 ≤ j:=by omega
               clear hw HQ1 hje
               go_wp2_with (first | (go_at_call 140;refine (U HL _ _).mono ?_;rintro e w1 ⟨rfl,hw⟩;replace hw:=hw.symm;subst hw) | (go_at_call 132;refine (U HG _ _).mono ?_;rintro e w1 ⟨rfl,hw⟩;replace hw:=hw.symm;subst hw) | (go_at_call 134;first | (refine (U HK1 _).mono ?_;clear HK1;rintro e w1 ⟨rfl,hb1x⟩;have HO1:=V ((U HO).go hb1x);clear hb1x) | (refine (U HK2 _).mono ?_;rintro e w4 ⟨rfl,hb1x⟩;have HO4:=V ((U HO3).go hb1x);clear hb1x)) | (go_at_call 133;refine (U HI _).mono ?_;rintro e w3 ⟨rfl,hb2x⟩;have HO3:=V ((U HO1).go hb2x);clear hb2x;have hs3:=U HS3 w3) | (at_builtin;refine append_tk rfl (.tmp 122) (.tmp 130) rfl (U HO4) rfl rfl (by omega) 1 (k:Int) (loL tok) ⟨1,loL tok,k⟩ rfl ?_;intro ad2 k2 w2 ho2;have HO2:=V ho2;clear ho2))
               go_roundw
               case rel=>exact ⟨j,_,_,_,by omega,rfl,rfl,by omega,_,HO2,HQ⟩
               case measure=>simp [intOf];omega
        · have hje:=(U HN2).stop (fun y hy=>absurd (List.getElem?_eq_some_iff.1 hy).1 hj)
          have hj':¬ (j:Int) < (l.length:Int):=by omega
          clear HN2
          have hs:=sub_run l k j (k:Int) (j:Int) wr rfl rfl (by omega) (by omega)
          rw [show j - k=n by omega,← U HT] at hs
          cases hw:wordsL.contains (upL tok) with
          | true=>
           have HQ:Hid (R=joinT (acc ++ [⟨2,upL tok,k⟩]) (lexL (l.drop j) j)):=by
            have h:=U HQ1
            rw [tokL,if_pos rfl,if_pos hw,← hje] at h
            exact h
           rw [hw] at HI
           have hkj1:k+1 ≤ j:=by omega
           clear hw HQ1 HK2 hje
           go_wp2_with (first | (go_at_call 140;refine (U HL _ _).mono ?_;rintro e w1 ⟨rfl,hw⟩;replace hw:=hw.symm;subst hw) | (go_at_call 132;refine (U HG _ _).mono ?_;rintro e w1 ⟨rfl,hw⟩;replace hw:=hw.symm;subst hw) | (go_at_call 134;refine (U HK1 _).mono ?_;rintro e w1 ⟨rfl,hb1x⟩;have HO1:=V ((U HO).go hb1x);clear hb1x) | (go_at_call 133;refine (U HI _).mono ?_;rintro e w3 ⟨rfl,hb2x⟩;have HO3:=V ((U HO1).go hb2x);clear hb2x) | (at_builtin;refine append_tk rfl (.tmp 116) (.tmp 120) rfl (U HO3) rfl rfl (by omega) 2 (k:Int) (upL tok) ⟨2,upL tok,k⟩ rfl ?_;intro ad2 k2 w2 ho2;have HO2:=V ho2;clear ho2))
           go_roundw
           case rel=>exact ⟨j,_,_,_,by omega,rfl,rfl,by omega,_,HO2,HQ⟩
           case measure=>simp [intOf];omega
          | false=>
           have HQ:Hid (R=joinT (acc ++ [⟨1,loL tok,k⟩]) (lexL (l.drop j) j)):=by
            have h:=U HQ1
            rw [tokL,if_pos rfl,if_neg (by rw [hw];decide),← hje] at h
            exact h
           rw [hw] at HI
           have HS3:=V (fun W=>sub_run l k j (k:Int) (j:Int) W rfl rfl (by omega) (by omega))
           rw [show j - k=n by omega,← U HT] at HS3
           have hkj1:k+1 ≤ j:=by omega
           clear hw HQ1 hje
           go_wp2_with (first | (go_at_call 140;refine (U HL _ _).mono ?_;rintro e w1 ⟨rfl,hw⟩;replace hw:=hw.symm;subst hw) | (go_at_call 132;refine (U HG _ _).mono ?_;rintro e w1 ⟨rfl,hw⟩;replace hw:=hw.symm;subst hw) | (go_at_call 134;first | (refine (U HK1 _).mono ?_;clear HK1;rintro e w1 ⟨rfl,hb1x⟩;have HO1:=V ((U HO).go hb1x);clear hb1x) | (refine (U HK2 _).mono ?_;rintro e w4 ⟨rfl,hb1x⟩;have HO4:=V ((U HO3).go hb1x);clear hb1x)) | (go_at_call 133;refine (U HI _).mono ?_;rintro e w3 ⟨rfl,hb2x⟩;have HO3:=V ((U HO1).go hb2x);clear hb2x;have hs3:=U HS3 w3) | (at_builtin;refine append_tk rfl (.tmp 122) (.tmp 130) rfl (U HO4) rfl rfl (by omega) 1 (k:Int) (loL tok) ⟨1,loL tok,k⟩ rfl ?_;intro ad2 k2 w2 ho2;have HO2:=V ho2;clear ho2))
           go_roundw
           case rel=>exact ⟨j,_,_,_,by omega,rfl,rfl,by omega,_,HO2,HQ⟩
           case measure=>simp [intOf];omega
    have hkd2:(kd c == 2)=false:=by simp [h2]
    by_cases h3:kd c=3
    · have hp:=piece_num (U HD) h3
      have hsz:=piece_size hp
      rw [List.length_drop] at hsz
      have HN:Hid (RunX (goK 3) l k ((l.drop k).takeWhile (goK 3)).length k):=RunX.begin (by omega)
      obtain ⟨n,hn⟩:∃ n,n=((l.drop k).takeWhile (goK 3)).length:=⟨_,rfl⟩
      rw [← hn] at hp hsz HN
      have hkd3:(kd c == 3)=true:=by simp [h3]
      obtain ⟨tok,htok⟩:∃ tok,tok=(l.drop k).take n:=⟨_,rfl⟩
      have htl:tok.length=n:=by rw [htok,List.length_take,List.length_drop];omega
      have HQ1:Hid (R=joinT (acc ++ [⟨3,numL tok,k⟩]) (lexL (l.drop (k+n)) (k+n))):=by
       have h:=(U HQ0).trans (joinT_step acc k hp)
       rw [if_neg (by decide),List.drop_drop,← htok] at h
       exact h
      have hb1:k+n ≤ l.length:=by omega
      have hb2:1 ≤ n:=hsz.1
      have HT:=V htok
      have HTL:=V htl
      clear hp hsz hn htok htl HQ0 HD HC h1 h5 h2 h3
      as_aux_lemma=>
       go_wp2_with (first | (go_at_call 140;refine (U HL _ _).mono ?_;rintro e w1 ⟨rfl,hw⟩;replace hw:=hw.symm;subst hw) | (go_at_call 132;refine (U HG _ _).mono ?_;rintro e w1 ⟨rfl,hw⟩;replace hw:=hw.symm;subst hw))
       go_loopw [6] (fun i wx=>∃ j:Nat,i=.int .i64 (j:Int)∧wx=wr∧k ≤ j∧j ≤ l.length∧Hid (RunX (goK 3) l k n j)) (fun i _=>l.length - (intOf i).toNat)
       case atStart=>exact ⟨k,rfl,rfl,by omega,by omega,HN⟩
       case round=>
        obtain ⟨j,rfl,rfl,hkj,hjl,HN2⟩:=hrel
        clear HN hi
        by_cases hj:j < l.length
        · obtain ⟨x,hx⟩:∃ x,l[j]?=some x:=⟨l[j],List.getElem?_eq_getElem hj⟩
          have hj':(j:Int) < (l.length:Int):=by omega
          have hij:=idx_run l j _ x wr rfl hx
          by_cases hx3:kd x=3
          · have HN3:=V ((U HN2).next hx (by simp [goK,hx3]))
            have hb3:(kd x == 3)=true:=by simp [hx3]
            clear hx HN2 hx3
            go_wp2_with (go_at_call 132;refine (U HG _ _).mono ?_;rintro e w1 ⟨rfl,hw⟩;replace hw:=hw.symm;subst hw)
            go_roundw
            case rel=>first | exact ⟨j+1,by go_num,rfl,by omega,by omega,HN3⟩ | exact ⟨j+1,by go_num,trivial,by omega,by omega,HN3⟩ | exact ⟨j+1,by go_num,by omega,by omega,HN3⟩
            case measure=>simp [intOf];omega
          · have hb3:(kd x == 3)=false:=by simp [hx3]
            have hje:=(U HN2).stop (fun y hy=>by rw [hx] at hy;cases hy;simp [goK,hb3])
            clear hx HN2 hx3
            have hkj1:k+1 ≤ j:=by omega
            have HJE:=V hje
            clear hje
            go_wp2_with (go_at_call 132;refine (U HG _ _).mono ?_;rintro e w1 ⟨rfl,hw⟩;replace hw:=hw.symm;subst hw)
            go_loopw [10] (fun i wx=>∃ q:Nat,i=.int .i64 ((k+q:Nat):Int)∧wx=wr∧q < n∧Hid (NumX tok q)) (fun i _=>l.length - (intOf i).toNat)
            case atStart=>exact ⟨0,rfl,rfl,by omega,by rw [U HTL];omega,rfl⟩
            case round=>
             obtain ⟨q,rfl,rfl,hqn,HN4⟩:=hrel
             have hje:=U HJE
             obtain ⟨x,hx⟩:∃ x,l[k+q]?=some x:=⟨l[k+q],List.getElem?_eq_getElem (by omega)⟩
             have hxt:tok[q]?=some x:=by rw [U HT,List.getElem?_take_of_lt hqn,List.getElem?_drop];exact hx
             obtain ⟨y,hy⟩:∃ y,y=k+q:=⟨_,rfl⟩
             have hix:=idx_run l y _ x wr rfl (by rw [hy];exact hx)
             have hy0:(0:Int) ≤ (y:Int):=by omega
             have hyb:(y:Int) < (l.length:Int):=by omega
             have hjI:(j:Int)=(k:Int)+(n:Int):=by omega
             have hyI:(y:Int)=(k:Int)+(q:Int):=by omega
             rw [← hy]
             by_cases hq1:q+1 < n
             · have hq1':(y:Int)+1 < (j:Int):=by omega
               by_cases hx48:x=48
               · have HN5:=V ((U HN4).next (by rw [U HTL];exact hq1) (by rw [hxt,hx48]))
                 subst hx48
                 have HY:=V hy
                 clear hx hxt HN4 hy hjI hyI hje
                 go_wp2_with fail
                 go_roundw
                 case rel=>first | exact ⟨q+1,by rw [U HY];go_num,rfl,by omega,HN5⟩ | exact ⟨q+1,by rw [U HY];go_num,trivial,by omega,HN5⟩ | exact ⟨q+1,by rw [U HY];go_num,by omega,HN5⟩
                 case measure=>have:=U HY;simp [intOf];omega
               · have hq:=(neI hx48 48 rfl).1
                 have hnum:=(U HN4).stop (.inr (fun y hy=>by rw [hxt] at hy;cases hy;exact hx48))
                 have hs:=sub_run l y j (y:Int) (j:Int) wr rfl rfl (by omega) (by omega)
                 have hsub:(l.drop y).take (j - y)=numL tok:=by rw [hnum,U HT,List.drop_take,List.drop_drop,show k+q=y by omega,show n - q=j - y by omega]
                 rw [hsub] at hs
                 have HQ:Hid (R=joinT (acc ++ [⟨3,numL tok,k⟩]) (lexL (l.drop j) j)):=by
                  have h:=U HQ1
                  rw [← hje] at h
                  exact h
                 obtain ⟨z,hz⟩:∃ z,z=numL tok:=⟨_,rfl⟩
                 rw [← hz] at hs HQ
                 clear hx hxt HN4 hnum hsub hz HQ1 hy hjI hyI hje
                 go_wp2_with (at_builtin;refine append_tk rfl (.tmp 160) (.tmp 167) rfl (U HO) rfl rfl (by omega) 3 (k:Int) z ⟨3,z,k⟩ rfl ?_;intro ad2 k2 w2 ho2;have HO2:=V ho2;clear ho2)
                 go_roundw
                 case rel=>exact ⟨j,_,_,_,by omega,rfl,rfl,by omega,_,HO2,HQ⟩
                 case measure=>simp [intOf];omega
             · have hq1':¬ (y:Int)+1 < (j:Int):=by omega
               have hnum:=(U HN4).stop (.inl (by rw [U HTL];omega))
               have hs:=sub_run l y j (y:Int) (j:Int) wr rfl rfl (by omega) (by omega)
               have hsub:(l.drop y).take (j - y)=numL tok:=by rw [hnum,U HT,List.drop_take,List.drop_drop,show k+q=y by omega,show n - q=j - y by omega]
               rw [hsub] at hs
               have HQ:Hid (R=joinT (acc ++ [⟨3,numL tok,k⟩]) (lexL (l.drop j) j)):=by
                have h:=U HQ1
                rw [← hje] at h
                exact h
               obtain ⟨z,hz⟩:∃ z,z=numL tok:=⟨_,rfl⟩
               rw [← hz] at hs HQ
               clear hx hxt HN4 hnum hsub hz HQ1 hy hjI hyI hje
               go_wp2_with (at_builtin;refine append_tk rfl (.tmp 160) (.tmp 167) rfl (U HO) rfl rfl (by omega) 3 (k:Int) z ⟨3,z,k⟩ rfl ?_;intro ad2 k2 w2 ho2;have HO2:=V ho2;clear ho2)
               go_roundw
               case rel=>exact ⟨j,_,_,_,by omega,rfl,rfl,by omega,_,HO2,HQ⟩
               case measure=>simp [intOf];omega
        · have hje:=(U HN2).stop (fun y hy=>absurd (List.getElem?_eq_some_iff.1 hy).1 hj)
          have hj':¬ (j:Int) < (l.length:Int):=by omega
          clear HN2
          have hkj1:k+1 ≤ j:=by omega
          have HJE:=V hje
          clear hje
          go_wp2_with (go_at_call 132;refine (U HG _ _).mono ?_;rintro e w1 ⟨rfl,hw⟩;replace hw:=hw.symm;subst hw)
          go_loopw [10] (fun i wx=>∃ q:Nat,i=.int .i64 ((k+q:Nat):Int)∧wx=wr∧q < n∧Hid (NumX tok q)) (fun i _=>l.length - (intOf i).toNat)
          case atStart=>exact ⟨0,rfl,rfl,by omega,by rw [U HTL];omega,rfl⟩
          case round=>
           obtain ⟨q,rfl,rfl,hqn,HN4⟩:=hrel
           have hje:=U HJE
           obtain ⟨x,hx⟩:∃ x,l[k+q]?=some x:=⟨l[k+q],List.getElem?_eq_getElem (by omega)⟩
           have hxt:tok[q]?=some x:=by rw [U HT,List.getElem?_take_of_lt hqn,List.getElem?_drop];exact hx
           obtain ⟨y,hy⟩:∃ y,y=k+q:=⟨_,rfl⟩
           have hix:=idx_run l y _ x wr rfl (by rw [hy];exact hx)
           have hy0:(0:Int) ≤ (y:Int):=by omega
           have hyb:(y:Int) < (l.length:Int):=by omega
           have hjI:(j:Int)=(k:Int)+(n:Int):=by omega
           have hyI:(y:Int)=(k:Int)+(q:Int):=by omega
           rw [← hy]
           by_cases hq1:q+1 < n
           · have hq1':(y:Int)+1 < (j:Int):=by omega
             by_cases hx48:x=48
             · have HN5:=V ((U HN4).next (by rw [U HTL];exact hq1) (by rw [hxt,hx48]))
               subst hx48
               have HY:=V hy
               clear hx hxt HN4 hy hjI hyI hje
               go_wp2_with fail
               go_roundw
               case rel=>first | exact ⟨q+1,by rw [U HY];go_num,rfl,by omega,HN5⟩ | exact ⟨q+1,by rw [U HY];go_num,trivial,by omega,HN5⟩ | exact ⟨q+1,by rw [U HY];go_num,by omega,HN5⟩
               case measure=>have:=U HY;simp [intOf];omega
             · have hq:=(neI hx48 48 rfl).1
               have hnum:=(U HN4).stop (.inr (fun y hy=>by rw [hxt] at hy;cases hy;exact hx48))
               have hs:=sub_run l y j (y:Int) (j:Int) wr rfl rfl (by omega) (by omega)
               have hsub:(l.drop y).take (j - y)=numL tok:=by rw [hnum,U HT,List.drop_take,List.drop_drop,show k+q=y by omega,show n - q=j - y by omega]
               rw [hsub] at hs
               have HQ:Hid (R=joinT (acc ++ [⟨3,numL tok,k⟩]) (lexL (l.drop j) j)):=by
                have h:=U HQ1
                rw [← hje] at h
                exact h
               obtain ⟨z,hz⟩:∃ z,z=numL tok:=⟨_,rfl⟩
               rw [← hz] at hs HQ
               clear hx hxt HN4 hnum hsub hz HQ1 hy hjI hyI hje
               go_wp2_with (at_builtin;refine append_tk rfl (.tmp 160) (.tmp 167) rfl (U HO) rfl rfl (by omega) 3 (k:Int) z ⟨3,z,k⟩ rfl ?_;intro ad2 k2 w2 ho2;have HO2:=V ho2;clear ho2)
               go_roundw
               case rel=>exact ⟨j,_,_,_,by omega,rfl,rfl,by omega,_,HO2,HQ⟩
               case measure=>simp [intOf];omega
           · have hq1':¬ (y:Int)+1 < (j:Int):=by omega
             have hnum:=(U HN4).stop (.inl (by rw [U HTL];omega))
             have hs:=sub_run l y j (y:Int) (j:Int) wr rfl rfl (by omega) (by omega)
             have hsub:(l.drop y).take (j - y)=numL tok:=by rw [hnum,U HT,List.drop_take,List.drop_drop,show k+q=y by omega,show n - q=j - y by omega]
             rw [hsub] at hs
             have HQ:Hid (R=joinT (acc ++ [⟨3,numL tok,k⟩]) (lexL (l.drop j) j)):=by
              have h:=U HQ1
              rw [← hje] at h
              exact h
             obtain ⟨z,hz⟩:∃ z,z=numL tok:=⟨_,rfl⟩
             rw [← hz] at hs HQ
             clear hx hxt HN4 hnum hsub hz HQ1 hy hjI hyI hje
             go_wp2_with (at_builtin;refine append_tk rfl (.tmp 160) (.tmp 167) rfl (U HO) rfl rfl (by omega) 3 (k:Int) z ⟨3,z,k⟩ rfl ?_;intro ad2 k2 w2 ho2;have HO2:=V ho2;clear ho2)
             go_roundw
             case rel=>exact ⟨j,_,_,_,by omega,rfl,rfl,by omega,_,HO2,HQ⟩
             case measure=>simp [intOf];omega
    have hkd3:(kd c == 3)=false:=by simp [h3]
    by_cases h4:kd c=4
    · have e4:=kd4 c h4
      have hc39:((c.toNat:Int) == 39)=true:=by rw [e4];rfl
      have hpq:=piece_quote (by rw [U HD,e4])
      have HX:=V (text_any l k wr (by omega) hlt)
      unfold TextP at HX
      cases hq:qR (l.drop (k+1)) (k+1) [] none with
      | none=>
       rw [hq] at hpq
       simp only[hq] at HX
       have HE:Hid (R=.error k):=by
        have h:=lexL_error k (by rw [U HD];exact List.cons_ne_nil _ _) hpq
        rw [U HQ0,h];rfl
       unfold sv at HX
       clear hq hpq HQ0 HD HC h1 h2 h3 h4 h5 e4
       as_aux_lemma=>
        go_wp2_with (first | (go_at_call 140;refine (U HL _ _).mono ?_;rintro e w1 ⟨rfl,hw⟩;replace hw:=hw.symm;subst hw) | (go_at_call 132;refine (U HG _ _).mono ?_;rintro e w1 ⟨rfl,hw⟩;replace hw:=hw.symm;subst hw) | (go_at_call 141;refine (U HX).mono ?_;rintro e w1 ⟨rfl,hb1x⟩;have HO1:=V ((U HO).go hb1x);clear hb1x))
        go_ret3
        refine U HP _ _ ?_
        rw [U HE]
        exact ⟨rfl,(U HO1).low⟩
      | some q=>
       obtain ⟨t,n,z⟩:=q
       rw [hq] at hpq
       simp only[hq] at HX
       cases z with
       | some z=>
        obtain ⟨hp,hkz⟩:=hpq
        have HE:Hid (R=.error z):=by
         have h:=lexL_error k (by rw [U HD];exact List.cons_ne_nil _ _) hp
         rw [U HQ0,h,show k+(z - k)=z by omega];rfl
        unfold sv at HX
        simp only[zIX] at HX
        have hz0:(0:Int) ≤ (z:Int):=by omega
        clear hq hp hkz HQ0 HD HC h1 h2 h3 h4 h5 e4
        as_aux_lemma=>
         go_wp2_with (first | (go_at_call 140;refine (U HL _ _).mono ?_;rintro e w1 ⟨rfl,hw⟩;replace hw:=hw.symm;subst hw) | (go_at_call 132;refine (U HG _ _).mono ?_;rintro e w1 ⟨rfl,hw⟩;replace hw:=hw.symm;subst hw) | (go_at_call 141;refine (U HX).mono ?_;rintro e w1 ⟨rfl,hb1x⟩;have HO1:=V ((U HO).go hb1x);clear hb1x))
         go_ret3
         refine U HP _ _ ?_
         rw [U HE]
         exact ⟨rfl,(U HO1).low⟩
       | none=>
        obtain ⟨hp,ht,hkn,hnl⟩:=hpq
        have HQ:Hid (R=joinT (acc ++ [⟨4,t,k⟩]) (lexL (l.drop n) n)):=by
         have h:=(U HQ0).trans (joinT_step acc k hp)
         rw [if_neg (by decide),List.drop_drop,ht,show k+(n - k)=n by omega] at h
         exact h
        unfold sv at HX
        simp only[zIX] at HX
        clear hq hp ht HQ0 HD HC h1 h2 h3 h4 h5 e4
        as_aux_lemma=>
         go_wp2_with (first | (go_at_call 140;refine (U HL _ _).mono ?_;rintro e w1 ⟨rfl,hw⟩;replace hw:=hw.symm;subst hw) | (go_at_call 132;refine (U HG _ _).mono ?_;rintro e w1 ⟨rfl,hw⟩;replace hw:=hw.symm;subst hw) | (go_at_call 141;refine (U HX).mono ?_;rintro e w1 ⟨rfl,hb1x⟩;have HO1:=V ((U HO).go hb1x);clear hb1x) | (at_builtin;refine append_tk rfl (.tmp 182) (.tmp 186) rfl (U HO1) rfl rfl (by omega) 4 (k:Int) t ⟨4,t,k⟩ rfl ?_;intro ad2 k2 w2 ho2;have HO2:=V ho2;clear ho2))
         go_roundw
         case rel=>exact ⟨n,_,_,_,by omega,rfl,rfl,by omega,_,HO2,HQ⟩
         case measure=>simp [intOf];omega
    have n4':=nkd4 c h4
    have hQ1:=piece_sign' (U HD) h1 h2 h3 h4 (fun e=>absurd e h5)
    clear h1 h2 h3 h4 h5
    as_aux_lemma=>
     have HQ1:=V hQ1
     have HW:=V (sign_any l k wr (by omega) hlt)
     by_cases hz:sgN (l.drop k)=0
     · have HE:Hid (R=.error k):=by
        have h:=lexL_error k (by rw [U HD];exact List.cons_ne_nil _ _) ((U HQ1).trans (if_pos hz))
        rw [U HQ0,h];rfl
       rw [hz,List.take_zero] at HW
       unfold sv at HW
       clear hQ1 HQ1 HD HC hz HQ0
       go_wp2_with (first | (go_at_call 140;refine (U HL _ _).mono ?_;rintro e w1 ⟨rfl,hw⟩;replace hw:=hw.symm;subst hw) | (go_at_call 132;refine (U HG _ _).mono ?_;rintro e w1 ⟨rfl,hw⟩;replace hw:=hw.symm;subst hw) | (go_at_call 142;refine (U HW).mono ?_;rintro e w1 ⟨rfl,hw⟩;replace hw:=hw.symm;subst hw))
       go_ret3
       refine U HP _ _ ?_
       rw [U HE]
       exact ⟨rfl,(U HO).low⟩
     · obtain ⟨n,hn⟩:∃ n,n=sgN (l.drop k):=⟨_,rfl⟩
       have hp:pieceL (l.drop k)=.ok (5,n):=by rw [U HQ1,if_neg hz,hn]
       have hsz:=piece_size hp
       rw [List.length_drop] at hsz
       obtain ⟨x,hx⟩:∃ x,x=(l.drop k).take n:=⟨_,rfl⟩
       have hxl:x.length=n:=by rw [hx,List.length_take,List.length_drop];omega
       have HQ:Hid (R=joinT (acc ++ [⟨5,x,k⟩]) (lexL (l.drop (k+n)) (k+n))):=by
        have h:=(U HQ0).trans (joinT_step acc k hp)
        rw [if_neg (by decide),List.drop_drop,tok5,← hx] at h
        exact h
       rw [← hn,← hx] at HW
       unfold sv at HW
       have hxe:(x == [])=false:=by cases x with | nil=>simp at hxl;omega | cons _ _=>rfl
       have hxi:(x.length:Int)=(n:Int):=by omega
       have hb1:k+n ≤ l.length:=by omega
       have hb2:1 ≤ n:=hsz.1
       clear hQ1 HQ1 HD HC hz HQ0 hn hx hp hsz hxl
       go_wp2_with (first | (go_at_call 140;refine (U HL _ _).mono ?_;rintro e w1 ⟨rfl,hw⟩;replace hw:=hw.symm;subst hw) | (go_at_call 132;refine (U HG _ _).mono ?_;rintro e w1 ⟨rfl,hw⟩;replace hw:=hw.symm;subst hw) | (go_at_call 142;refine (U HW).mono ?_;rintro e w1 ⟨rfl,hw⟩;replace hw:=hw.symm;subst hw) | (at_builtin;refine append_tk rfl (.tmp 32) (.tmp 36) rfl (U HO) rfl rfl (by omega) 5 (k:Int) x ⟨5,x,k⟩ rfl ?_;intro ad2 k2 w2 ho2;have HO2:=V ho2;clear ho2))
       go_roundw
       case rel=>exact ⟨k+n,_,_,_,by omega,rfl,rfl,by omega,_,HO2,HQ⟩
       case measure=>simp [intOf];omega
  · have hlt':¬ (k:Int) < (l.length:Int):=by omega
    have HQ:Hid (R=.ok acc):=by
     rw [U HQ0,List.drop_eq_nil_of_le (by omega),lexL_nil]
     show Except.ok (acc ++ [])=_
     rw [List.append_nil]
    clear HQ0
    go_wp2_with (at_builtin;refine append_tk rfl (.tmp 189) (.tmp 193) rfl (U HO) rfl rfl (by omega) 0 (l.length:Int) [] ⟨0,[],l.length⟩ rfl ?_;intro ad2 k2 w2 ho2;have HO2:=V ho2;clear ho2)
    go_ret3
    refine U HP _ _ ?_
    rw [U HQ]
    have hlen:=(U HO).len
    refine ⟨ad2,k2,?_,?_⟩
    · rw [← hlen];rfl
    · rw [← hlen];exact U HO2
end Go.Proofs.YtpnonhjmpnbmcaaGreatDoor
