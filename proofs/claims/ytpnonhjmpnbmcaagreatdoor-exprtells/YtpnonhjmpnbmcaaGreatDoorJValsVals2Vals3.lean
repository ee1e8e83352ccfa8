/- Contracts of package wire's writer of values. -/
import Derived.Test.YtpnonhjmpnbmcaaGreatDoorJErrsAsNumsDecFaultsWriterVErr
import Derived.Lib.Bytealg
namespace Go.Proofs.YtpnonhjmpnbmcaaGreatDoor
open Go.RowKit Go.Lib
open Act (put)
set_option maxHeartbeats 1600000
/-- An api.Value. -/
structure GV where
 kind:Int
 int:Int
 text:ByteArray
def GV.agg (g:GV):Value:=.agg #[.int .i64 g.kind,.int .i64 g.int,.string g.text]
def GV.ok (g:GV):Prop:=-9223372036854775808 ≤ g.int∧g.int < 9223372036854775808∧g.text.size ≤ maxLen
/-- It may be (P1.2). -/
def GV.may (g:GV):Bool:=
 (g.kind == 0 && g.int == 0 && g.text.toList.isEmpty) || (g.kind == 1 && (g.int == 0 || g.int == 1) && g.text.toList.isEmpty) || (g.kind == 2 && g.text.toList.isEmpty) ||
 (g.kind == 3 && g.int == 0 && g.text.size ≤ 40 && indexByte g.text.data.toList 0 < 0)
/-- Its bytes. -/
def GV.bytes (g:GV):List UInt8:=
 uvarint g.kind.toNat ++ (if g.kind=1 then uvarint g.int.toNat else if g.kind=2 then uvarint (zigzag g.int) else if g.kind=3 then uvarint g.text.size ++ g.text.data.toList else [])
theorem ret_bool {a b:Bool} (h:a=b):Ending.returned (.bool a)=.returned (.bool b):=by rw [h]
theorem indexByte_any (s:ByteArray) (w:World) :
 Calls Tryz.prog 220 #[.string s,.int .u8 0] w fun e w'=>e=.returned (.int .i64 (indexByte s.data.toList 0))∧w'=w:=by
 have h:=@run_callFunc_extern Tryz.prog 226 _ Extern.BytealgIndexByte.indexByte Tryz.func226 (by kernel_rfl) (by kernel_rfl) (by kernel_rfl) (by kernel_rfl)
 have h2:=run_indexByteString (P:=Tryz.prog) s 0
 go_enter Tryz.func220,Tryz.ntmps220
 go_wp2
 go_ret
 exact ⟨rfl,rfl⟩
theorem mayBe_any (g:GV) (w:World) (hg:g.ok) :
 Calls Tryz.prog 212 #[g.agg] w fun e w'=>e=.returned (.bool g.may)∧w'=w.alloc (.cells #[.int .i64 g.kind,.int .i64 g.int,.string g.text] 26):=by
 obtain ⟨k,n,t⟩:=g
 obtain ⟨h1,h2,h3⟩:=hg
 unfold GV.agg
 obtain ⟨m,hm⟩:∃ m,m=GV.may ⟨k,n,t⟩:=⟨_,rfl⟩
 rw [← hm]
 have HM:=V hm
 clear hm
 dsimp only at *
 unfold maxLen at h3
 by_cases hk0:k=0
 · subst hk0
   by_cases hn:n=0
   · subst hn
     go_enter Tryz.func212,Tryz.ntmps212
     go_wp2
     go_ret
     exact ⟨ret_bool (by rw [U HM];simp [GV.may]),rfl⟩
   · have hnb:(n != 0)=true:=by simp [hn]
     have hnc:(n == 0)=false:=by simp [hn]
     go_enter Tryz.func212,Tryz.ntmps212
     go_wp2
     go_ret
     exact ⟨ret_bool (by rw [U HM];simp [GV.may,hnc]),rfl⟩
 · by_cases hk1:k=1
   · subst hk1
     by_cases hn:n=0
     · subst hn
       go_enter Tryz.func212,Tryz.ntmps212
       go_wp2
       go_ret
       exact ⟨ret_bool (by rw [U HM];simp [GV.may]),rfl⟩
     · by_cases hn1:n=1
       · subst hn1
         go_enter Tryz.func212,Tryz.ntmps212
         go_wp2
         go_ret
         exact ⟨ret_bool (by rw [U HM];simp [GV.may]),rfl⟩
       · have hnb:(n != 0)=true:=by simp [hn]
         have hnc:(n != 1)=true:=by simp [hn1]
         have hnd:(n == 0)=false:=by simp [hn]
         have hne:(n == 1)=false:=by simp [hn1]
         go_enter Tryz.func212,Tryz.ntmps212
         go_wp2
         go_ret
         exact ⟨ret_bool (by rw [U HM];simp [GV.may,hnd,hne]),rfl⟩
   · by_cases hk2:k=2
     · subst hk2
       go_enter Tryz.func212,Tryz.ntmps212
       go_wp2
       go_ret
       exact ⟨ret_bool (by rw [U HM];simp [GV.may]),rfl⟩
     · by_cases hk3:k=3
       · subst hk3
         by_cases hn:n=0
         · subst hn
           by_cases h40:t.size ≤ 40
           · go_enter Tryz.func212,Tryz.ntmps212
             go_wp2_with (go_at_call 220;refine (indexByte_any t _).mono ?_;rintro e w1 ⟨rfl,rfl⟩)
             go_ret
             exact ⟨ret_bool (by rw [U HM];simp [GV.may,h40]),rfl⟩
           · go_enter Tryz.func212,Tryz.ntmps212
             go_wp2
             go_ret
             exact ⟨ret_bool (by rw [U HM];simp [GV.may,h40]),rfl⟩
         · have hnb:(n == 0)=false:=by simp [hn]
           go_enter Tryz.func212,Tryz.ntmps212
           go_wp2
           go_ret
           exact ⟨ret_bool (by rw [U HM];simp [GV.may,hnb]),rfl⟩
       · have b0:(k == 0)=false:=by simp [hk0]
         have b1:(k == 1)=false:=by simp [hk1]
         have b2:(k == 2)=false:=by simp [hk2]
         have b3:(k == 3)=false:=by simp [hk3]
         go_enter Tryz.func212,Tryz.ntmps212
         go_wp2
         go_ret
         exact ⟨ret_bool (by rw [U HM];simp [GV.may,b0,b1,b2,b3]),rfl⟩
theorem strCells_eq (t:ByteArray):strCells t=byteCells t.data.toList:=rfl
theorem bytes_length (t:ByteArray):t.data.toList.length=t.size:=by simp
/-- What a writer has behind a text. -/
def putText (t:ByteArray) (most:Int) (s:Option (List UInt8)):Option (List UInt8):=
 if (t.size:Int) ≤ most then s.map (· ++ (uvarint t.size ++ t.data.toList)) else none
theorem wtext_none (p:Nat) (t:ByteArray) (most:Int) (s:Option (List UInt8)) (w:World) (h0:0 ≤ most) (hm:most ≤ 1000000000) (ht:t.size ≤ 9223372036854775807) (hw:WS w p s) (hl:∀ l,s=some l→l.length ≤ 1000000000)
 (hn:(t.size:Int) ≤ most→s=none) :
 Calls Tryz.prog 217 #[.pointer (some ⟨p,0,none⟩),.string t,.int .i64 most] w fun e w'=>e=.returned (.tuple #[])∧WS w' p none∧Fr 5 p w w':=by
 have ht':(t.size:Int) ≤ 9223372036854775807:=by omega
 have HB:=V (wbetween_any p (t.size:Int) 0 most s w (by omega) h0 hm hw hl)
 have e:(if 0 ≤ (t.size:Int)∧(t.size:Int) ≤ most then s.map (· ++ uvarint ((t.size:Int) - 0).toNat) else none)=none:=by
  split
  · rw [hn (by omega)];rfl
  · rfl
 rw [e] at HB
 clear hw hl hn e
 go_enter Tryz.func217,Tryz.ntmps217
 go_wp2_with (go_at_call 211;refine (U HB).mono ?_;rintro e w1 ⟨rfl,⟨f0,f1,b,pl,c0,c1,hb,he⟩,hb1⟩)
 first | go_end0 | refine bodyPost_ret (results_none rfl _ _ _) rfl ?_
 exact ⟨rfl,⟨f0,f1,b,pl,c0,c1,hb,he⟩,hb1⟩
theorem wtext_some (p:Nat) (t:ByteArray) (most:Int) (l:List UInt8) (w:World) (h0:0 ≤ most) (hm:most ≤ 1000000000) (hw:WS w p (some l)) (hl:l.length ≤ 900000000) (ht:(t.size:Int) ≤ most) :
 Calls Tryz.prog 217 #[.pointer (some ⟨p,0,none⟩),.string t,.int .i64 most] w fun e w'=>e=.returned (.tuple #[])∧WS w' p (some (l ++ (uvarint t.size ++ t.data.toList)))∧Fr 5 p w w':=by
 obtain ⟨i0,hi,hz0,hz1,hz2⟩:=info_parts Tryz.infoB
 have hp:=hw.lt
 have HB:=V (wbetween_any p (t.size:Int) 0 most (some l) w (by omega) h0 hm hw (by intro l' h;injection h with h;subst h;omega))
 rw [if_pos (by omega),show ((t.size:Int) - 0).toNat=t.size by omega,Option.map_some] at HB
 have hu:=uvarint_length64 (x:=t.size) (by omega)
 have HL:Hid ((l ++ uvarint t.size).length=l.length+(uvarint t.size).length):=List.length_append
 clear hw
 go_enter Tryz.func217,Tryz.ntmps217
 go_wp2_with (first | (go_at_call 211;refine (U HB).mono ?_;rintro e w1 ⟨rfl,⟨f0,f1,v,c0,c1,ho⟩,hb1⟩;have hs1:=hb1.1.size) | (at_builtin;refine wpList_append_own_string _ rfl (.tmp 20) (.tmp 21) 52 9 rfl (p+1) 5 i0 Tryz.underlying52 Tryz.underlying9 hi hz0 hz1 hz2 _ _ _ rfl ho t rfl (by have:=U HL;unfold maxLen;omega) (by have:=U HL;omega) (by omega) ?_))
 intro v' w2 ho2 hg2 _
 obtain ⟨a2,k2,hv2⟩:=own_slice ho2
 subst hv2
 have hb2:Below (p+1) w1 w2:=(Below.refl _ _).grown hg2 (by omega) (own_block_ge ho)
 have d0:w2.cell? ⟨p,0,none⟩=some v:=(hb2.cell (p:=⟨p,0,none⟩) (Nat.lt_succ_self p)).trans c0
 have g0:w2.frozen? ⟨p,0,none⟩=false:=(hb2.frozen (p:=⟨p,0,none⟩) (Nat.lt_succ_self p)).trans f0
 have R:=V (WS.more (l':=l ++ (uvarint t.size ++ t.data.toList)) c0 c1 f0 f1 hb2 (KeepT.of_grown ho hg2) (by
  have e1:(l ++ (uvarint t.size ++ t.data.toList)).length=l.length+(uvarint t.size).length+t.size:=by rw [List.length_append,List.length_append,bytes_length];omega
  rw [e1,← List.append_assoc,byteCells_append];exact ho2))
 clear ho2 hg2 hb2
 go_wp2
 first | go_end0 | refine bodyPost_ret (results_none rfl _ _ _) rfl ?_
 exact ⟨rfl,(U R).1,hb1.trans (U R).2⟩
theorem wtext_any (p:Nat) (t:ByteArray) (most:Int) (s:Option (List UInt8)) (w:World) (h0:0 ≤ most) (hm:most ≤ 1000000000) (ht:t.size ≤ maxLen) (hw:WS w p s) (hl:∀ l,s=some l→l.length ≤ 900000000) :
 Calls Tryz.prog 217 #[.pointer (some ⟨p,0,none⟩),.string t,.int .i64 most] w fun e w'=>e=.returned (.tuple #[])∧WS w' p (putText t most s)∧Fr 5 p w w':=by
 unfold putText
 by_cases h:(t.size:Int) ≤ most
 · rw [if_pos h]
   cases s with
   | none=>exact wtext_none p t most none w h0 hm (by unfold maxLen at ht;omega) hw (by simp) (fun _=>rfl)
   | some l=>exact wtext_some p t most l w h0 hm hw (hl l rfl) h
 · rw [if_neg h]
   exact wtext_none p t most s w h0 hm (by unfold maxLen at ht;omega) hw (fun l e=>by have:=hl l e;omega) (fun h'=>absurd h' h)
theorem WS.alloc {w:World} {p:Nat} {s:Option (List UInt8)} (h:WS w p s) (o:Obj):WS (w.alloc o) p s:=by
 have hp:=h.lt
 cases s with
 | none=>
  obtain ⟨f0,f1,b,pl,h0,h1,hb,he⟩:=h
  exact ⟨by rw [World.frozen?_alloc_old _ _ _ (Nat.ne_of_lt hp)];exact f0,by rw [World.frozen?_alloc_old _ _ _ (Nat.ne_of_lt hp)];exact f1,b,pl,(World.cell?_alloc_lt _ _ ⟨p,0,none⟩ hp).trans h0,(World.cell?_alloc_lt _ _ ⟨p,1,none⟩ hp).trans h1,hb,he.alloc o⟩
 | some l=>
  obtain ⟨f0,f1,v,h0,h1,ho⟩:=h
  exact ⟨by rw [World.frozen?_alloc_old _ _ _ (Nat.ne_of_lt hp)];exact f0,by rw [World.frozen?_alloc_old _ _ _ (Nat.ne_of_lt hp)];exact f1,v,(World.cell?_alloc_lt _ _ ⟨p,0,none⟩ hp).trans h0,(World.cell?_alloc_lt _ _ ⟨p,1,none⟩ hp).trans h1,ho.alloc o⟩
/-- The world behind the box and the look. -/
abbrev box2 (w:World) (k n:Int) (t:ByteArray):World:=(w.alloc (.cells #[.int .i64 k,.int .i64 n,.string t] 26)).alloc (.cells #[.int .i64 k,.int .i64 n,.string t] 26)
theorem box_at (w:World) (k n:Int) (t:ByteArray):(box2 w k n t).heap[w.heap.size]?=some (.cells #[.int .i64 k,.int .i64 n,.string t] 26 (0,0)):=by
 rw [box2,Below.heap_alloc _ _ _ (by simp)];exact heap_alloc_new _ _
theorem box_cells {w w':World} {k n:Int} {t:ByteArray} {p:Nat} (hp:p < w.heap.size) (h:Fr 5 p (box2 w k n t) w') :
 w'.cell? ⟨w.heap.size,0,none⟩=some (.int .i64 k)∧w'.cell? ⟨w.heap.size,1,none⟩=some (.int .i64 n)∧w'.cell? ⟨w.heap.size,2,none⟩=some (.string t):=by
 have hne:w.heap.size ≠ p:=by omega
 have h0:=(h.cell (o:=0) (box_at w k n t) (by decide) hne).2.2
 simp [World.cell?,h0]
theorem box_fr {w w':World} {k n:Int} {t:ByteArray} {p:Nat} (hp:p < w.heap.size) (h:Fr 5 p (box2 w k n t) w'):Fr 5 p w w':=
 (((Fr.refl _ p w).alloc (by omega) _).alloc (by simp;omega) _).trans h
/-- What a writer has behind a value. -/
def putVal (g:GV) (s:Option (List UInt8)):Option (List UInt8):=if g.may then s.map (· ++ g.bytes) else none
theorem bind_len {s:Option (List UInt8)} {x:List UInt8} (h:∀ l,s=some l→l.length ≤ 800000000) (hx:x.length ≤ 100):∀ l,s.map (· ++ x)=some l→l.length ≤ 900000000:=by
 intro l e
 cases s with
 | none=>cases e
 | some l0=>simp at e;subst e;have:=h l0 rfl;simp;omega
theorem uv_small (x:Nat) (h:x < 18446744073709551616):(uvarint x).length ≤ 100:=Nat.le_trans (uvarint_length64 h) (by decide)
theorem map_map (s:Option (List UInt8)) (x y:List UInt8):(s.map (· ++ x)).map (· ++ y)=s.map (· ++ (x ++ y)):=by
 cases s <;> simp
theorem wvalue_any (p:Nat) (g:GV) (s:Option (List UInt8)) (w:World) (hg:g.ok) (hw:WS w p s) (hl:∀ l,s=some l→l.length ≤ 800000000) :
 Calls Tryz.prog 203 #[.pointer (some ⟨p,0,none⟩),g.agg] w fun e w'=>e=.returned (.tuple #[])∧WS w' p (putVal g s)∧Fr 5 p w w':=by
 have hp:=hw.lt
 have HM:=V (fun w=>mayBe_any g w hg)
 obtain ⟨k,n,t⟩:=g
 have hW:=(hw.alloc (.cells #[.int .i64 k,.int .i64 n,.string t] 26)).alloc (.cells #[.int .i64 k,.int .i64 n,.string t] 26)
 have hne:¬ w.heap.size=p:=by omega
 unfold putVal
 unfold GV.agg at *
 dsimp only at *
 cases hmay:GV.may ⟨k,n,t⟩ with
 | false=>
  rw [hmay] at HM
  have HR:=V (wrefuse_any p s (box2 w k n t) hW)
  clear hW hw hl
  go_enter Tryz.func203,Tryz.ntmps203
  go_wp2_with (first | (go_at_call 212;refine (U HM _).mono ?_;rintro e w1 ⟨rfl,rfl⟩) | (go_at_call 213;refine (U HR).mono ?_;rintro e w2 ⟨rfl,hw2,hf2⟩))
  first | go_end0 | refine bodyPost_ret (results_none rfl _ _ _) rfl ?_
  exact ⟨rfl,by simpa using hw2,box_fr hp hf2⟩
 | true=>
  rw [hmay] at HM
  rw [if_pos rfl]
  obtain ⟨n1,n2,n3⟩:=hg
  dsimp only at n1 n2 n3
  by_cases hk0:k=0
  · subst hk0
    have HB:=V (wbetween_any p 0 0 3 s (box2 w 0 n t) (by omega) (by omega) (by omega) hW (fun l h=>by have:=hl l h;omega))
    rw [if_pos (by omega)] at HB
    clear hW hw hl
    go_enter Tryz.func203,Tryz.ntmps203
    go_wp2_with (first | (go_at_call 212;refine (U HM _).mono ?_;rintro e w1 ⟨rfl,rfl⟩) | (go_at_call 211;refine (U HB).mono ?_;rintro e w2 ⟨rfl,hw2,hf2⟩;obtain ⟨b0,b1,b2⟩:=box_cells hp hf2))
    first | go_end0 | refine bodyPost_ret (results_none rfl _ _ _) rfl ?_
    exact ⟨rfl,by simpa [GV.bytes] using hw2,box_fr hp hf2⟩
  · by_cases hk1:k=1
    · subst hk1
      have hb:n=0 ∨ n=1:=by simp [GV.may] at hmay;exact hmay.1
      have HB:=V (wbetween_any p 1 0 3 s (box2 w 1 n t) (by omega) (by omega) (by omega) hW (fun l h=>by have:=hl l h;omega))
      rw [if_pos (by omega)] at HB
      have HT:=V (fun w2 (h2:WS w2 p (s.map (· ++ uvarint ((1:Int) - 0).toNat))) (t:Bool)=>wtruth_any p t _ w2 h2 (fun l h=>by have:=bind_len hl (uv_small 1 (by decide)) l h;omega))
      rcases hb with rfl | rfl
      · clear hW hw hl
        go_enter Tryz.func203,Tryz.ntmps203
        go_wp2_with (first | (go_at_call 212;refine (U HM _).mono ?_;rintro e w1 ⟨rfl,rfl⟩) | (go_at_call 211;refine (U HB).mono ?_;rintro e w2 ⟨rfl,hw2,hf2⟩;obtain ⟨b0,b1,b2⟩:=box_cells hp hf2) | (go_at_call 214;refine (U HT _ hw2 _).mono ?_;rintro e w3 ⟨rfl,hw3,hf3⟩))
        first | go_end0 | refine bodyPost_ret (results_none rfl _ _ _) rfl ?_
        rw [map_map] at hw3
        exact ⟨rfl,by simpa [GV.bytes] using hw3,(box_fr hp hf2).trans hf3⟩
      · clear hW hw hl
        go_enter Tryz.func203,Tryz.ntmps203
        go_wp2_with (first | (go_at_call 212;refine (U HM _).mono ?_;rintro e w1 ⟨rfl,rfl⟩) | (go_at_call 211;refine (U HB).mono ?_;rintro e w2 ⟨rfl,hw2,hf2⟩;obtain ⟨b0,b1,b2⟩:=box_cells hp hf2) | (go_at_call 214;refine (U HT _ hw2 _).mono ?_;rintro e w3 ⟨rfl,hw3,hf3⟩))
        first | go_end0 | refine bodyPost_ret (results_none rfl _ _ _) rfl ?_
        rw [map_map] at hw3
        exact ⟨rfl,by simpa [GV.bytes] using hw3,(box_fr hp hf2).trans hf3⟩
    · by_cases hk2:k=2
      · subst hk2
        have HB:=V (wbetween_any p 2 0 3 s (box2 w 2 n t) (by omega) (by omega) (by omega) hW (fun l h=>by have:=hl l h;omega))
        rw [if_pos (by omega)] at HB
        have hz:=zigzag_lt n1 (by omega:n ≤ 9223372036854775807)
        have HT:=V (fun w2 (h2:WS w2 p (s.map (· ++ uvarint ((2:Int) - 0).toNat)))=>wnumber_any p (zigzag n) _ w2 hz h2 (fun l h=>by have:=bind_len hl (uv_small 2 (by decide)) l h;omega))
        have HF:=V (fun w=>folded_any n w n1 n2)
        clear hW hw hl
        go_enter Tryz.func203,Tryz.ntmps203
        go_wp2_with (first | (go_at_call 212;refine (U HM _).mono ?_;rintro e w1 ⟨rfl,rfl⟩) | (go_at_call 211;refine (U HB).mono ?_;rintro e w2 ⟨rfl,hw2,hf2⟩;obtain ⟨b0,b1,b2⟩:=box_cells hp hf2) | (go_at_call 216;refine (U HF _).mono ?_;rintro e wf ⟨rfl,rfl⟩) | (go_at_call 215;refine (U HT _ hw2).mono ?_;rintro e w3 ⟨rfl,hw3,hf3⟩))
        first | go_end0 | refine bodyPost_ret (results_none rfl _ _ _) rfl ?_
        rw [map_map] at hw3
        exact ⟨rfl,by simpa [GV.bytes] using hw3,(box_fr hp hf2).trans hf3⟩
      · have hk3:k=3:=by
         have b0:(k == 0)=false:=by simp [hk0]
         have b1:(k == 1)=false:=by simp [hk1]
         have b2:(k == 2)=false:=by simp [hk2]
         simp [GV.may,b0,b1,b2] at hmay;exact hmay.1.1.1
        subst hk3
        have h40:t.size ≤ 40:=by simp [GV.may] at hmay;exact hmay.1.2
        have HB:=V (wbetween_any p 3 0 3 s (box2 w 3 n t) (by omega) (by omega) (by omega) hW (fun l h=>by have:=hl l h;omega))
        rw [if_pos (by omega)] at HB
        have HT:=V (fun w2 (h2:WS w2 p (s.map (· ++ uvarint ((3:Int) - 0).toNat)))=>wtext_any p t 40 _ w2 (by omega) (by omega) n3 h2 (bind_len hl (uv_small 3 (by decide))))
        clear hW hw hl
        go_enter Tryz.func203,Tryz.ntmps203
        go_wp2_with (first | (go_at_call 212;refine (U HM _).mono ?_;rintro e w1 ⟨rfl,rfl⟩) | (go_at_call 211;refine (U HB).mono ?_;rintro e w2 ⟨rfl,hw2,hf2⟩;obtain ⟨b0,b1,b2⟩:=box_cells hp hf2) | (go_at_call 217;refine (U HT _ hw2).mono ?_;rintro e w3 ⟨rfl,hw3,hf3⟩))
        first | go_end0 | refine bodyPost_ret (results_none rfl _ _ _) rfl ?_
        rw [putText,if_pos (by omega),map_map] at hw3
        exact ⟨rfl,by simpa [GV.bytes] using hw3,(box_fr hp hf2).trans hf3⟩
end Go.Proofs.YtpnonhjmpnbmcaaGreatDoor
