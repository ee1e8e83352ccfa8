/- The document's parser in memory; its small calls that only read. -/
import Derived.Test.YtpnonhjmpnbmcaaGreatDoorJXLex6XMemXPar0
import Derived.Deep.QuietTactic
import Derived.BigQuiet
import Derived.Test.YtpnonhjmpnbmcaaGreatDoorXLex7
namespace Go.Proofs.YtpnonhjmpnbmcaaGreatDoor
open Go.RowKit Go.Lib
open Act (put)
set_option maxRecDepth 10000
/-- A row of tokens as the lexer tells it. -/
structure TG (T:List Tk):Prop where
 len:T.length ≤ 3000
 pos:0 < T.length
 last:(T.getD (T.length - 1) ⟨0,[],0⟩).kind=0
 kind:∀ t ∈ T,t.kind ≤ 5
 text:∀ t ∈ T,t.text.length ≤ 3000
 place:∀ t ∈ T,t.pos ≤ 3000
/-- Tokens in a block. -/
def TkAt (w:World) (b:Nat) (T:List Tk):Prop:=∀ i t,T[i]?=some t→w.rangeAt b (i * 3) (tkC t)
/-- A parser at block p, its tokens in block bt. -/
structure PX (T:List Tk) (w:World) (p bt c:Nat) (S:PS):Prop where
 blk:w.heap[p]?=some (.cells #[.slice (some ⟨bt,0,none⟩) T.length c,.int .i64 (S.i:Int),.int .i64 S.deep,.int .i64 (S.at':Int),.int .i64 (S.err:Int)] 190 (0,0))
 toks:TkAt w bt T
 ne:bt ≠ p
 lt:S.i < T.length
 dlo:-9223372036854775808 ≤ S.deep
 dhi:S.deep ≤ 9223372036854775807
 err:S.err ≤ 2
theorem PX.bt_lt {T:List Tk} {w:World} {p bt c:Nat} {S:PS} (h:PX T w p bt c S):bt < w.heap.size:=
 World.block_lt_of_cell? w _ (h.toks S.i (T[S.i]'h.lt) (List.getElem?_eq_getElem h.lt) 0 _ rfl)
theorem PX.cells {T:List Tk} {w:World} {p bt c:Nat} {S:PS} (h:PX T w p bt c S) :
 w.cell? ⟨p,0,none⟩=some (.slice (some ⟨bt,0,none⟩) T.length c)∧w.cell? ⟨p,1,none⟩=some (.int .i64 (S.i:Int))∧w.cell? ⟨p,2,none⟩=some (.int .i64 S.deep)∧w.cell? ⟨p,3,none⟩=some (.int .i64 (S.at':Int))∧w.cell? ⟨p,4,none⟩=some (.int .i64 (S.err:Int)):=
 ⟨cellX h.blk 0,cellX h.blk 1,cellX h.blk 2,cellX h.blk 3,cellX h.blk 4⟩
theorem PX.tok {T:List Tk} {w:World} {p bt c:Nat} {S:PS} (h:PX T w p bt c S) {i:Nat} (hi:i < T.length) :
 w.cell? ⟨bt,i * 3,none⟩=some (.int .i64 ((T.getD i ⟨0,[],0⟩).kind:Int))∧w.cell? ⟨bt,i * 3+1,none⟩=some (sv (T.getD i ⟨0,[],0⟩).text)∧w.cell? ⟨bt,i * 3+2,none⟩=some (.int .i64 ((T.getD i ⟨0,[],0⟩).pos:Int)):=by
 have hT:T[i]?=some (T.getD i ⟨0,[],0⟩):=by rw [List.getD_eq_getElem?_getD,List.getElem?_eq_getElem hi];rfl
 have hr:=h.toks i _ hT
 exact ⟨hr 0 _ rfl,hr 1 _ rfl,hr 2 _ rfl⟩
theorem TkAt.keep {w w':World} {b:Nat} {T:List Tk} (h:TkAt w b T) (hb:b < w.heap.size→w'.heap[b]?=w.heap[b]?):TkAt w' b T:=fun i t ht=>rangeAt_blk (h i t ht) hb (by simp [tkC])
theorem PX.below {T:List Tk} {w w':World} {p bt c:Nat} {S:PS} (h:PX T w p bt c S) (hb:Below w.heap.size w w'):PX T w' p bt c S:=
 ⟨blkX h.blk hb,h.toks.keep (fun hl=>hb.block bt hl),h.ne,h.lt,h.dlo,h.dhi,h.err⟩
theorem ok_any {T:List Tk} {w:World} {p bt c:Nat} {S:PS} (h:PX T w p bt c S):Calls Tryz.prog 96 #[.pointer (some ⟨p,0,none⟩)] w fun e w'=>e=.returned (.bool (S.err == 0))∧w'=w:=by
 obtain ⟨c0,c1,c2,c3,c4⟩:=h.cells
 have he:((S.err:Int) == 0)=(S.err == 0):=by
  by_cases e:S.err=0
  · simp [e]
  · have:(S.err:Int) ≠ 0:=by omega
    rw [beq_eq_false_iff_ne.2 this,beq_eq_false_iff_ne.2 e]
 clear h
 go_enter Tryz.func96,Tryz.ntmps96
 go_wp2_with fail
 go_ret
 exact ⟨by rw [← he];rfl,rfl⟩
theorem PX.drewN {T:List Tk} {w:World} {p bt c:Nat} {S:PS} (h:PX T w p bt c S) (m:Nat):PX T (w.drewN m) p bt c S:=⟨h.blk,h.toks,h.ne,h.lt,h.dlo,h.dhi,h.err⟩
theorem is_run {T:List Tk} {w:World} {p bt c:Nat} {S:PS} (h:PX T w p bt c S) (k:Nat) (x:List UInt8):Calls Tryz.prog 189 #[.pointer (some ⟨p,0,none⟩),.int .i64 (k:Int),sv x] w fun e w'=>e=.returned (.bool (isS T k x S))∧∃ m,w'=w.drewN m:=by
 have HU:=V (fun m=>ok_any (h.drewN m))
 obtain ⟨c0,c1,c2,c3,c4⟩:=h.cells
 obtain ⟨t0,t1,t2⟩:=h.tok h.lt
 have hlt:(S.i:Int) < (T.length:Int):=by have:=h.lt;omega
 have hi0:(0:Int) ≤ (S.i:Int):=by omega
 obtain ⟨tk,htk⟩:∃ tk,tk=T.getD S.i ⟨0,[],0⟩:=⟨_,rfl⟩
 rw [← htk] at t0 t1 t2
 have HE:Hid (isS T k x S=(S.err == 0 && (tk.kind == k && tk.text == x))):=by rw [htk];rfl
 unfold sv at t1 ⊢
 clear h htk c2 c3 c4 t2
 by_cases he:S.err=0
 · have hb:(S.err == 0)=true:=by simp [he]
   rw [hb] at HU HE
   by_cases hk:tk.kind=k
   · have hkI:((tk.kind:Int) == (k:Int))=true:=by simp [hk]
     have HK:Hid ((tk.kind == k)=true):=by simp [Hid,hk]
     clear hk he hb
     go_enter Tryz.func189,Tryz.ntmps189
     go_wp2_with fail
     go_quiet ((go_at_call 96;refine Calls.quiet_of_same (U HU _)))
     go_wp2_with fail
     go_ret
     exact ⟨xret_bool (by rw [U HE,U HK];rfl),nq,rfl⟩
   · have hkI:((tk.kind:Int) == (k:Int))=false:=by
      rw [beq_eq_false_iff_ne];omega
     have HK:Hid ((tk.kind == k)=false):=by simp [Hid,hk]
     clear hk he hb
     go_enter Tryz.func189,Tryz.ntmps189
     go_wp2_with fail
     go_quiet ((go_at_call 96;refine Calls.quiet_of_same (U HU _)))
     go_wp2_with fail
     go_ret
     exact ⟨xret_bool (by rw [U HE,U HK];rfl),nq,rfl⟩
 · have hb:(S.err == 0)=false:=by simp [he]
   rw [hb] at HU HE
   clear he hb
   go_enter Tryz.func189,Tryz.ntmps189
   go_wp2_with fail
   go_quiet ((go_at_call 96;refine Calls.quiet_of_same (U HU _)))
   go_wp2_with fail
   go_ret
   exact ⟨xret_bool (by rw [U HE];rfl),nq,rfl⟩
theorem word_run {T:List Tk} {w:World} {p bt c:Nat} {S:PS} (h:PX T w p bt c S) (x:List UInt8):Calls Tryz.prog 177 #[.pointer (some ⟨p,0,none⟩),sv x] w fun e w'=>e=.returned (.bool (isS T 2 x S))∧∃ m,w'=w.drewN m:=by
 have HI:=V (is_run h 2 x)
 go_enter Tryz.func177,Tryz.ntmps177
 go_wp2_with (go_at_call 189;refine (U HI).mono ?_;rintro e w1 ⟨rfl,m,rfl⟩)
 go_ret
 exact ⟨rfl,m,rfl⟩
theorem sign_run {T:List Tk} {w:World} {p bt c:Nat} {S:PS} (h:PX T w p bt c S) (x:List UInt8):Calls Tryz.prog 153 #[.pointer (some ⟨p,0,none⟩),sv x] w fun e w'=>e=.returned (.bool (isS T 5 x S))∧∃ m,w'=w.drewN m:=by
 have HI:=V (is_run h 5 x)
 go_enter Tryz.func153,Tryz.ntmps153
 go_wp2_with (go_at_call 189;refine (U HI).mono ?_;rintro e w1 ⟨rfl,m,rfl⟩)
 go_ret
 exact ⟨rfl,m,rfl⟩
/-- The state's block written, nothing else. -/
theorem PX.upd {T:List Tk} {w w':World} {p bt c:Nat} {S S':PS} (h:PX T w p bt c S) (hf:FrX p w w') (hi:S'.i < T.length) (hd1:-9223372036854775808 ≤ S'.deep) (hd2:S'.deep ≤ 9223372036854775807) (he:S'.err ≤ 2)
 (hb:w'.heap[p]?=some (.cells #[.slice (some ⟨bt,0,none⟩) T.length c,.int .i64 (S'.i:Int),.int .i64 S'.deep,.int .i64 (S'.at':Int),.int .i64 (S'.err:Int)] 190 (0,0))):PX T w' p bt c S':=
 ⟨hb,h.toks.keep (fun hl=>hf.blk bt hl h.ne),h.ne,hi,hd1,hd2,he⟩
theorem PX.frz {T:List Tk} {w:World} {p bt c:Nat} {S:PS} (h:PX T w p bt c S) (j:Nat):w.frozen? ⟨p,j,none⟩=false:=frzX h.blk j
theorem FrX.drewN {p:Nat} {a w:World} (h:FrX p a w) (m:Nat):FrX p a (w.drewN m):=⟨h.os,h.tape,h.output,h.size,h.blk⟩
theorem FrX.drew {p:Nat} {a w:World} (h:FrX p a w):FrX p a w.drew:=⟨h.os,h.tape,h.output,h.size,h.blk⟩
theorem PX.drew {T:List Tk} {w:World} {p bt c:Nat} {S:PS} (h:PX T w p bt c S):PX T w.drew p bt c S:=⟨h.blk,h.toks,h.ne,h.lt,h.dlo,h.dhi,h.err⟩
theorem next_any {T:List Tk} {w:World} {p bt c:Nat} {S:PS} (hT:TG T) (h:PX T w p bt c S):Calls Tryz.prog 154 #[.pointer (some ⟨p,0,none⟩)] w fun e w'=>e=.returned (.tuple #[])∧PX T w' p bt c (nextS T S)∧FrX p w w':=by
 have HU:=V (fun m=>ok_any (h.drewN m))
 obtain ⟨c0,c1,c2,c3,c4⟩:=h.cells
 have f1:=h.frz 1
 have HX:=V h
 have hlt:(S.i:Int) < (T.length:Int):=by have:=h.lt;omega
 have hTl:(T.length:Int) ≤ 3000:=by have:=hT.len;omega
 have hi0:(0:Int) ≤ (S.i:Int):=by omega
 clear h c2 c3 c4
 by_cases he:S.err=0
 · have hb:(S.err == 0)=true:=by simp [he]
   rw [hb] at HU
   by_cases hn:S.i+1 < T.length
   · have hnI:(S.i:Int)+1 < (T.length:Int):=by omega
     have HS:Hid (nextS T S={ S with i:=S.i+1 }):=by unfold nextS;exact if_pos ⟨he,hn⟩
     clear he hb
     go_enter Tryz.func154,Tryz.ntmps154
     go_wp2_with fail
     go_quiet ((go_at_call 96;refine Calls.quiet_of_same (U HU _)))
     go_wp2_with fail
     go_end0
     refine ⟨rfl,?_,((FrX.refl p w).drewN nq).set _ _⟩
     rw [U HS]
     have h:=(U HX).drewN nq
     refine h.upd ((FrX.refl p _).set _ _) hn h.dlo h.dhi h.err ?_
     exact (setX h.blk 1 _).trans rfl
   · have hnI:¬ (S.i:Int)+1 < (T.length:Int):=by omega
     have HS:Hid (nextS T S=S):=by unfold nextS;exact if_neg (fun h=>hn h.2)
     clear he hb
     go_enter Tryz.func154,Tryz.ntmps154
     go_wp2_with fail
     go_quiet ((go_at_call 96;refine Calls.quiet_of_same (U HU _)))
     go_wp2_with fail
     go_end0
     refine ⟨rfl,?_,(FrX.refl p w).drewN nq⟩
     rw [U HS]
     exact (U HX).drewN nq
 · have hb:(S.err == 0)=false:=by simp [he]
   rw [hb] at HU
   have HS:Hid (nextS T S=S):=by unfold nextS;exact if_neg (fun h=>he h.1)
   clear he hb
   go_enter Tryz.func154,Tryz.ntmps154
   go_wp2_with fail
   go_quiet ((go_at_call 96;refine Calls.quiet_of_same (U HU _)))
   go_wp2_with fail
   go_end0
   refine ⟨rfl,?_,(FrX.refl p w).drewN nq⟩
   rw [U HS]
   exact (U HX).drewN nq
theorem fail_any {T:List Tk} {w:World} {p bt c:Nat} {S:PS} (_hT:TG T) (h:PX T w p bt c S) (k:Nat) (hk:k ≤ 2):Calls Tryz.prog 97 #[.pointer (some ⟨p,0,none⟩),.int .i64 (k:Int)] w fun e w'=>e=.returned (.tuple #[])∧PX T w' p bt c (failS T k S)∧FrX p w w':=by
 obtain ⟨c0,c1,c2,c3,c4⟩:=h.cells
 obtain ⟨t0,t1,t2⟩:=h.tok h.lt
 have f3:=h.frz 3
 have f4:=h.frz 4
 have HX:=V h
 have hlt:(S.i:Int) < (T.length:Int):=by have:=h.lt;omega
 have hi0:(0:Int) ≤ (S.i:Int):=by omega
 have hne:=h.ne
 by_cases he:S.err=0
 · have heI:((S.err:Int) == 0)=true:=by simp [he]
   have HS:Hid (failS T k S={ S with err:=k,at':=(tkS T S).pos }):=by unfold failS;exact if_pos he
   clear h he t0 t1 c2
   go_enter Tryz.func97,Tryz.ntmps97
   go_wp2_with fail
   go_region
   go_wp2_with fail
   go_end0
   refine ⟨rfl,?_,(((FrX.refl p w).set _ _).drew).set _ _⟩
   rw [U HS]
   have h:=U HX
   refine h.upd ((((FrX.refl p w).set _ _).drew).set _ _) h.lt h.dlo h.dhi hk ?_
   have hb1:=setX h.blk 4 (.int .i64 (k:Int))
   have hb2:(w.setCell ⟨p,4,none⟩ (.int .i64 (k:Int))).drew.heap[p]?=_:=hb1
   exact (setX hb2 3 _).trans rfl
 · have heI:((S.err:Int) == 0)=false:=by rw [beq_eq_false_iff_ne];omega
   have HS:Hid (failS T k S=S):=by unfold failS;exact if_neg he
   clear h he
   go_enter Tryz.func97,Tryz.ntmps97
   go_wp2_with fail
   go_end0
   refine ⟨rfl,?_,FrX.refl p w⟩
   rw [U HS]
   exact U HX
theorem unq_len:∀ l:List UInt8,(unq l).length ≤ l.length
 | []=>Nat.le_refl _
 | [c]=>Nat.le_refl _
 | c :: d :: r=>by
  rw [unq]
  split
  · have:=unq_len r;simp only[List.length_cons];omega
  · have:=unq_len (d :: r);simp only[List.length_cons] at this ⊢;omega
theorem numL_len (l:List UInt8):(numL l).length ≤ l.length:=by
 unfold numL
 have h1:((l.take (l.length - 1)).dropWhile (· == 48)).length ≤ (l.take (l.length - 1)).length:=(List.dropWhile_sublist _).length_le
 rw [List.length_append,List.length_drop]
 rw [List.length_take] at h1
 omega
theorem piece_kind {l:List UInt8} {k m:Nat} (h:pieceL l=.ok (k,m)):k=0 ∨ k=1 ∨ k=3 ∨ k=4 ∨ k=5:=by
 cases l with
 | nil=>cases h
 | cons c r=>
  rw [pieceL] at h
  split at h
  · injection h with h;injection h with h1 _;omega
  split at h
  · injection h with h;injection h with h1 _;omega
  split at h
  · injection h with h;injection h with h1 _;omega
  split at h
  · cases hq:qEnd r with
    | none=>rw [hq] at h;cases h
    | some n=>
     rw [hq] at h
     cases hi:idx 0 (r.take n) with
     | none=>simp only[hi] at h;injection h with h;injection h with h1 _;omega
     | some i=>simp only[hi] at h;cases h
  split at h
  · split at h
    · injection h with h;injection h with h1 _;omega
    · injection h with h;injection h with h1 _;omega
  split at h
  · split at h
    · cases h
    · injection h with h;injection h with h1 _;omega
  · cases h
theorem tok_ok {k:Nat} (hk:k=1 ∨ k=3 ∨ k=4 ∨ k=5) (l:List UInt8):1 ≤ (tokL k l).1∧(tokL k l).1 ≤ 5∧(tokL k l).2.length ≤ l.length:=by
 unfold tokL
 rcases hk with rfl | rfl | rfl | rfl
 · rw [if_pos rfl]
   split
   · exact ⟨by dsimp only;decide,by dsimp only;decide,by simp [upL]⟩
   · exact ⟨by dsimp only;decide,by dsimp only;decide,by simp [loL]⟩
 · rw [if_neg (by decide),if_pos rfl]
   exact ⟨by dsimp only;decide,by dsimp only;decide,numL_len l⟩
 · rw [if_neg (by decide),if_neg (by decide),if_pos rfl]
   refine ⟨by dsimp only;decide,by dsimp only;decide,?_⟩
   have:=unq_len ((l.drop 1).take (l.length - 2))
   have h2:((l.drop 1).take (l.length - 2)).length ≤ l.length:=by rw [List.length_take,List.length_drop];omega
   dsimp only
   omega
 · rw [if_neg (by decide),if_neg (by decide),if_neg (by decide)]
   exact ⟨by dsimp only;decide,by dsimp only;decide,Nat.le_refl _⟩
theorem lex_ok:∀ (n:Nat) (l:List UInt8) (a:Nat) (t:List Tk),lexF n l a=.ok t→t.length ≤ l.length∧∀ x ∈ t,1 ≤ x.kind∧x.kind ≤ 5∧x.text.length ≤ l.length∧x.pos ≤ a+l.length
 | 0,l,a,t,h=>by injection h with h;subst h;exact ⟨Nat.zero_le _,fun x hx=>by cases hx⟩
 | n+1,l,a,t,h=>by
  rw [lexF] at h
  split at h
  · injection h with h;subst h;exact ⟨Nat.zero_le _,fun x hx=>by cases hx⟩
  · cases hp:pieceL l with
    | error e=>rw [hp] at h;cases h
    | ok q=>
     obtain ⟨k,m⟩:=q
     rw [hp] at h
     dsimp only at h
     have hs:=piece_size hp
     cases ht:lexF n (l.drop m) (a+m) with
     | error e=>rw [ht] at h;cases h
     | ok u=>
      rw [ht] at h
      dsimp only at h
      injection h with h
      have ih:=lex_ok n (l.drop m) (a+m) u ht
      rw [List.length_drop] at ih
      have hu:∀ x ∈ u,1 ≤ x.kind∧x.kind ≤ 5∧x.text.length ≤ l.length∧x.pos ≤ a+l.length:=fun x hx=>by
       have:=ih.2 x hx;omega
      by_cases hk:k=0
      · rw [if_pos hk] at h
        subst h
        exact ⟨by omega,hu⟩
      · rw [if_neg hk] at h
        subst h
        refine ⟨by simp only[List.length_cons];omega,fun x hx=>?_⟩
        rcases List.mem_cons.1 hx with rfl | hx
        · have h1:=tok_ok (by have:=piece_kind hp;omega) (l.take m) (k:=k)
          rw [List.length_take] at h1
          dsimp only
          omega
        · exact hu x hx
theorem tg_of {l:List UInt8} {ts:List Tk} (h:lexL l 0=.ok ts) (hl:l.length ≤ 2000):TG (ts ++ [⟨0,[],l.length⟩]):=by
 obtain ⟨h1,h2⟩:=lex_ok _ _ _ _ h
 refine ⟨by rw [List.length_append];simp;omega,by simp,?_,fun t ht=>?_,fun t ht=>?_,fun t ht=>?_⟩
 · rw [List.getD_eq_getElem?_getD,List.length_append,List.length_singleton,Nat.add_sub_cancel,List.getElem?_append_right (Nat.le_refl _),Nat.sub_self]
   rfl
 all_goals
  rcases List.mem_append.1 ht with ht | ht
  · have:=h2 t ht;omega
  · rw [List.mem_singleton.1 ht];simp <;> omega
theorem tkCs_get:∀ (T:List Tk) (i:Nat) (t:Tk),T[i]?=some t→∀ j v,(tkC t)[j]?=some v→(tkCs T)[i * 3+j]?=some v
 | [],i,t,h,_,_,_=>by simp at h
 | x :: T,0,t,h,j,v,hj=>by
  simp at h
  subst h
  have hl:j < 3:=by
   have:=(List.getElem?_eq_some_iff.1 hj).1
   simpa [tkC] using this
  rw [show tkCs (x :: T)=tkC x ++ tkCs T from rfl,Nat.zero_mul,Nat.zero_add,List.getElem?_append_left (by simp [tkC];exact hl)]
  exact hj
 | x :: T,i+1,t,h,j,v,hj=>by
  rw [show tkCs (x :: T)=tkC x ++ tkCs T from rfl,List.getElem?_append_right (by simp [tkC];omega)]
  have:=tkCs_get T i t (by simpa using h) j v hj
  rw [show (i+1) * 3+j - (tkC x).length=i * 3+j by simp [tkC];omega]
  exact this
theorem tkAt_of {w0 w:World} {a:Option Addr} {m c:Nat} {T:List Tk} (h:OWX w0 w a m c T) (hp:T ≠ []):∃ bt,a=some ⟨bt,0,none⟩∧TkAt w bt T∧w0.heap.size ≤ bt∧m=T.length:=by
 rcases h.row.2 with ⟨e,hm⟩ | ⟨g,cap,cur,e,hb,hc,h1,h2,h3,h4⟩
 · exact absurd (List.eq_nil_of_length_eq_zero (by rw [← h.len];exact hm)) hp
 · injection e with e1 e2 e3
   subst e1
   refine ⟨g,rfl,fun i t ht j v hv=>?_,hb,h.len⟩
   rw [cellX hc]
   have h5:=tkCs_get T i t ht j v hv
   rw [← h4] at h5
   have hj2:=(List.getElem?_eq_some_iff.1 h5).1
   rw [List.getElem?_take_of_lt (by simp at hj2;omega)] at h5
   simpa using h5
end Go.Proofs.YtpnonhjmpnbmcaaGreatDoor
