/- The document's lexer: signs. -/
import Derived.Test.YtpnonhjmpnbmcaaGreatDoorJHandXBaseXLex3HandL
import Derived.Maps.AppendAt
namespace Go.Proofs.YtpnonhjmpnbmcaaGreatDoor
open Go.RowKit Go.Lib
open Act (put)
set_option maxHeartbeats 3200000
set_option maxRecDepth 10000
theorem sub_run (l:List UInt8) (i j:Nat) (x y:Int) (w:World) (hx:x=(i:Int)) (hy:y=(j:Int)) (hij:i ≤ j) (hj:j ≤ l.length) :
 (Instr.slice 9 (.string ⟨l.toArray⟩) (some (.int .i64 x)) (some (.int .i64 y)) none).run Tryz.prog w=.ok (.string ⟨((l.drop i).take (j - i)).toArray⟩) w:=by
 subst hx hy
 have h:=run_slice_string (P:=Tryz.prog) w 9 ⟨l.toArray⟩ .i64 .i64 (i:Int) (j:Int) Tryz.underlying9 (by omega) (by omega) (by simp [ByteArray.size];omega)
 have e:(⟨l.toArray⟩:ByteArray).extract (i:Int).toNat (j:Int).toNat=⟨((l.drop i).take (j - i)).toArray⟩:=by
  apply ByteArray.ext
  apply Array.ext'
  simp [ByteArray.data_extract,List.take_drop,Nat.add_sub_cancel' hij]
 rw [h,e]
theorem idx_run (l:List UInt8) (i:Nat) (x:Int) (c:UInt8) (w:World) (hx:x=(i:Int)) (hc:l[i]?=some c) :
 (Instr.index 9 (.string ⟨l.toArray⟩) (.int .i64 x)).run Tryz.prog w=.ok (.int .u8 (c.toNat:Int)) w:=by
 subst hx
 have h:=run_index_string (P:=Tryz.prog) w 9 ⟨l.toArray⟩ .i64 (i:Int) Tryz.underlying9
 have hi:i < l.length:=(List.getElem?_eq_some_iff.1 hc).1
 have e:∀ (h:(i:Int).toNat < (⟨l.toArray⟩:ByteArray).size),(⟨l.toArray⟩:ByteArray)[(i:Int).toNat]=c:=fun _=>(List.getElem?_eq_some_iff.1 hc).2
 rw [h,dif_pos ⟨by omega,by simp [ByteArray.size];omega⟩,e]
def sgN (l:List UInt8):Nat:=match l with | []=>0 | c :: r=>if kd c=5 then 1 else if kd c=6 then sgL (c :: r) else 0
def pairX (c d:UInt8):Prop:=(c=60∧d=62) ∨ (c=60∧d=61) ∨ (c=62∧d=61) ∨ (c=124∧d=124)
def onesX:List Nat:=[40,41,44,59,46,42,43,45,47,37,61,60,62]
theorem sg_two {c d:UInt8} (h:pairX c d) (r:List UInt8):sgN (c :: d :: r)=2:=by
 rcases h with ⟨rfl,rfl⟩ | ⟨rfl,rfl⟩ | ⟨rfl,rfl⟩ | ⟨rfl,rfl⟩ <;> rfl
theorem ones_kd:∀ c:UInt8,c.toNat ∈ onesX→c ≠ 124∧(kd c=5 ∨ kd c=6):=byte_all (by decide +kernel)
theorem nones_kd:∀ c:UInt8,c.toNat ∉ onesX→kd c ≠ 5∧(kd c=6→c=124):=byte_all (by decide +kernel)
theorem sg_one {c:UInt8} (h:c.toNat ∈ onesX) (r:List UInt8) (hp:∀ d,r.head?=some d→¬ pairX c d):sgN (c :: r)=1:=by
 obtain ⟨h1,h2⟩:=ones_kd c h
 unfold sgN
 dsimp only
 by_cases h5:kd c=5
 · rw [if_pos h5]
 · rw [if_neg h5,if_pos (h2.resolve_left h5),sgL,if_neg h1,if_neg,if_neg]
   · rintro ⟨e | e,h'⟩
     · exact hp _ h' (.inr (.inl ⟨e,rfl⟩))
     · exact hp _ h' (.inr (.inr (.inl ⟨e,rfl⟩)))
   · rintro ⟨e,h'⟩
     exact hp _ h' (.inl ⟨e,rfl⟩)
theorem sg_none {c:UInt8} (h:c.toNat ∉ onesX) (r:List UInt8) (hp:∀ d,r.head?=some d→¬ pairX c d):sgN (c :: r)=0:=by
 obtain ⟨h1,h2⟩:=nones_kd c h
 unfold sgN
 dsimp only
 rw [if_neg h1]
 by_cases h6:kd c=6
 · rw [if_pos h6,sgL,if_pos (h2 h6),if_neg]
   intro h'
   exact hp _ h' (.inr (.inr (.inr ⟨h2 h6,rfl⟩)))
 · rw [if_neg h6]
theorem ret_sv1 {c:UInt8} {b:List UInt8} (h:b=[c]):Ending.returned (.string ⟨#[c]⟩)=.returned (.string ⟨b.toArray⟩):=by rw [h]
theorem ret_sv2 {c d:UInt8} {b:List UInt8} (h:b=[c,d]):Ending.returned (.string ⟨#[c,d]⟩)=.returned (.string ⟨b.toArray⟩):=by rw [h]
theorem ret_sv0 {b:List UInt8} (h:b=[]):Ending.returned (.string ⟨#[]⟩)=.returned (.string ⟨b.toArray⟩):=by rw [h]
theorem sign_any (l:List UInt8) (at':Nat) (w:World) (hl:l.length ≤ 1000000) (ha:at' < l.length):Calls Tryz.prog 142 #[sv l,.int .i64 (at':Int)] w fun e w'=>e=.returned (sv ((l.drop at').take (sgN (l.drop at'))))∧w'=w:=by
 have hl':(l.length:Int) ≤ 1000000:=by omega
 have ha0:(0:Int) ≤ (at':Int):=by omega
 obtain ⟨c,hc⟩:∃ c,l[at']?=some c:=⟨l[at'],List.getElem?_eq_getElem ha⟩
 have hd:l.drop at'=c :: l.drop (at'+1):=by
  rw [List.drop_eq_getElem_cons ha]
  rw [List.getElem?_eq_getElem ha] at hc
  injection hc with hc;rw [hc]
 have hi:=idx_run l at' _ c w rfl hc
 have hs1:=sub_run l at' (at'+1) _ _ w rfl (show (at':Int)+1=((at'+1:Nat):Int) by omega) (by omega) (by omega)
 have e1:(l.drop at').take (at'+1 - at')=[c]:=by rw [hd,show at'+1 - at'=1 by omega];rfl
 rw [e1] at hs1
 obtain ⟨r,hr⟩:∃ r,r=(l.drop at').take (sgN (l.drop at')):=⟨_,rfl⟩
 rw [← hr]
 rw [hd] at hr
 unfold sv
 clear hc e1 hd
 by_cases h2:at'+1 < l.length
 · have h2':(at':Int)+1 < (l.length:Int):=by omega
   obtain ⟨d,hdd⟩:∃ d,l[at'+1]?=some d:=⟨l[at'+1],List.getElem?_eq_getElem h2⟩
   have hd2:l.drop (at'+1)=d :: l.drop (at'+2):=by
    rw [List.drop_eq_getElem_cons h2]
    rw [List.getElem?_eq_getElem h2] at hdd
    injection hdd with hdd;rw [hdd]
   have e2:(l.drop at').take (at'+2 - at')=[c,d]:=by
    rw [List.drop_eq_getElem_cons ha,show at'+2 - at'=2 by omega,hd2]
    have:=(List.getElem?_eq_some_iff.1 (show l[at']?=some c by
     have h:=hi
     rw [run_index_string (P:=Tryz.prog) w 9 ⟨l.toArray⟩ .i64 (at':Int) Tryz.underlying9,dif_pos ⟨by omega,by simp [ByteArray.size];omega⟩] at h
     injection h with h _
     injection h with _ h
     rw [List.getElem?_eq_getElem ha]
     congr 1
     exact UInt8.toNat_inj.1 (Int.ofNat.inj h))).2
    rw [this];rfl
   have hs:=sub_run l at' (at'+2) _ _ w rfl (show (at':Int)+2=((at'+2:Nat):Int) by omega) (by omega) (by omega)
   rw [e2] at hs
   rw [hd2] at hr
   clear hd2 hdd e2
   by_cases hp:pairX c d
   · rw [sg_two hp] at hr
     have HR:Hid (r=[c,d]):=hr
     clear hr
     rcases hp with ⟨rfl,rfl⟩ | ⟨rfl,rfl⟩ | ⟨rfl,rfl⟩ | ⟨rfl,rfl⟩ <;>
     · go_enter Tryz.func142,Tryz.ntmps142
       go_wp2_with fail
       go_ret
       exact ⟨ret_sv2 (U HR),rfl⟩
   · have q1:([c,d] == [60,62])=false:=by simp;exact fun h1 h2=>hp (.inl ⟨h1,h2⟩)
     have q2:([c,d] == [60,61])=false:=by simp;exact fun h1 h2=>hp (.inr (.inl ⟨h1,h2⟩))
     have q3:([c,d] == [62,61])=false:=by simp;exact fun h1 h2=>hp (.inr (.inr (.inl ⟨h1,h2⟩)))
     have q4:([c,d] == [124,124])=false:=by simp;exact fun h1 h2=>hp (.inr (.inr (.inr ⟨h1,h2⟩)))
     have HR:=V hr
     have HP:Hid (∀ x,(d :: l.drop (at'+2)).head?=some x→¬ pairX c x):=fun x hx=>by cases hx;exact hp
     clear hr hp
     go_enter Tryz.func142,Tryz.ntmps142
     go_wp2_with fail
     all_goals
      go_ret
      first
       | (refine ⟨ret_sv1 ?_,rfl⟩
          have hm:c.toNat ∈ onesX:=by (simp only[beq_iff_eq] at *;simp only[onesX,List.mem_cons];omega)
          rw [U HR,sg_one hm _ (U HP)];rfl)
       | (refine ⟨ret_sv0 ?_,rfl⟩
          have hm:c.toNat ∉ onesX:=by (simp only[beq_eq_false_iff_ne] at *;simp only[onesX,List.mem_cons];simp;omega)
          rw [U HR,sg_none hm _ (U HP)];rfl)
 · have h2':¬ (at':Int)+1 < (l.length:Int):=by omega
   have hn:l.drop (at'+1)=[]:=List.drop_eq_nil_of_le (by omega)
   rw [hn] at hr
   have HR:=V hr
   have HP:Hid (∀ x,([]:List UInt8).head?=some x→¬ pairX c x):=fun x hx=>by cases hx
   clear hr hn
   go_enter Tryz.func142,Tryz.ntmps142
   go_wp2_with fail
   all_goals
    go_ret
    first
     | (refine ⟨ret_sv1 ?_,rfl⟩
        have hm:c.toNat ∈ onesX:=by (simp only[beq_iff_eq] at *;simp only[onesX,List.mem_cons];omega)
        rw [U HR,sg_one hm _ (U HP)];rfl)
     | (refine ⟨ret_sv0 ?_,rfl⟩
        have hm:c.toNat ∉ onesX:=by (simp only[beq_eq_false_iff_ne] at *;simp only[onesX,List.mem_cons];simp;omega)
        rw [U HR,sg_none hm _ (U HP)];rfl)
theorem ownBX {w:World} {B n sz:Nat} {T:TypeId} {v:Value} {xs:List Value} (h:w.ownsRow B T sz v n xs):∀ k,v.ownBlock=some k→B ≤ k:=by
 intro k hk
 rcases h.2 with ⟨rfl,_⟩ | ⟨g,c,cur,rfl,hB,_⟩
 · simp [Value.ownBlock] at hk
 · simp [Value.ownBlock] at hk;omega
theorem ownSX {w:World} {B n sz:Nat} {T:TypeId} {v:Value} {xs:List Value} (h:w.ownsRow B T sz v n xs):∃ a k,v=.slice a n k:=by
 obtain ⟨_,⟨rfl,rfl⟩ | ⟨g,cap,cur,rfl,_⟩⟩:=h
 · exact ⟨_,_,rfl⟩
 · exact ⟨_,_,rfl⟩
theorem append1 {P:Program} {w:World} {ops:Array Oper} {rest:List Oper} {o:Oper} {a:Act} {Q:Exit→Act→World→Prop} (hgd:o.guard=none) (s x:Operand) (t:TypeId)
 (ho:o.op=.call { callee:=.builtin .append,args:=#[s,x],argTypes:=#[t,t] })
 (base:Nat) (e:TypeId) (z:Value) (size bytes:Nat) (ht:P.underlying t=some (.slice e)) (hinfo:(P.info? e).map (fun i=>(i.zero,i.size,i.bytes))=some (some z,size,bytes))
 (hzs:z.cells.size=size) (hsz:0 < size) (hbytes:bytes ≤ 1000)
 (v:Value) (n:Nat) (xs:List Value) (hs:a.eval s=v) (hown:w.ownsRow base e size v n xs)
 (b:Nat) (ys:List Value) (hx:a.eval x=.slice (some ⟨b,0,none⟩) 1 1) (hb:w.heap[b]?=some (.cells ys.toArray e (0,0))) (hl:ys.length=size) (h1:∀ u ∈ ys,u.oneCell'=true)
 (hn:n ≤ 100000000) (hbase:base ≤ w.heap.size)
 (h:∀ ad k w',w'.ownsRow base e size (.slice ad (n+1) k) (n+1) (xs ++ ys)→Below base w w'→wpList P ops Q rest (a.put o.dst (.slice ad (n+1) k)) w'):wpList P ops Q (o :: rest) a w:=by
 obtain ⟨i0,hi,hz0,hz1,hz2⟩:=info_parts hinfo
 refine wpList_append_own_at w hgd s x t ho base e i0 z size bytes ht hi hz0 hz1 hz2 hzs hsz v n xs hs hown ⟨b,0,none⟩ 1 1 ys hx (by omega) (fun j u hj=>?_) h1 (by unfold maxLen;omega) ?_ hbase ?_
 · rw [Go.WideShapes.add_plain,Nat.zero_add,cellX hb]
   simpa using hj
 · have:(n+1) * bytes ≤ (100000000+1) * 1000:=Nat.mul_le_mul (by omega) hbytes
   omega
 · intro v' w' ho' hg _ _
   obtain ⟨ad,k,rfl⟩:=ownSX ho'
   exact h ad k w' ho' ((Below.refl _ _).grown hg hbase (ownBX hown))
/-- A row of one's own stands while only what lies below it turns, or what is new comes. -/
theorem own_keepX {w w':World} {B n sz:Nat} {T:TypeId} {v:Value} {xs:List Value} (h:w.ownsRow B T sz v n xs) (hb:Below w.heap.size w w'):w'.ownsRow B T sz v n xs:=by
 obtain ⟨h1,h2⟩:=h
 refine ⟨h1,?_⟩
 rcases h2 with h2 | ⟨g,cap,cur,hv,hg,hh,r⟩
 · exact .inl h2
 · exact .inr ⟨g,cap,cur,hv,hg,blkX hh hb,r⟩
theorem Tryz.infoU8:(Tryz.prog.info? 5).map (fun i=>(i.zero,i.size,i.bytes))=some (some (.int .u8 0),1,1):=by kernel_rfl
theorem Tryz.infoTk:(Tryz.prog.info? 193).map (fun i=>(i.zero,i.size,i.bytes))=some (some (.agg #[.int .i64 0,.string ⟨#[]⟩,.int .i64 0]),3,32):=by kernel_rfl
theorem Tryz.infoEx:(Tryz.prog.info? 29).map (fun i=>(i.zero,i.size,i.bytes))=some (some (.agg #[.int .i64 0,.int .i64 0,.int .i64 0,.int .i64 0,.string ⟨#[]⟩,.string ⟨#[]⟩,.string ⟨#[]⟩,.slice none 0 0,.int .i64 0,.int .i64 0]),10,120):=by kernel_rfl
def fzX (z:Option Nat) (c:UInt8) (i:Nat):Option Nat:=match z with | some j=>some j | none=>if c=0 then some i else none
def zIX (z:Option Nat):Int:=match z with | some j=>(j:Int) | none=>-1
/-- What is told behind a quote: the text, where it ends, the place of its first byte 0. -/
def qR (r:List UInt8) (i:Nat) (acc:List UInt8) (z:Option Nat):Option (List UInt8 × Nat × Option Nat):=
 match qEnd r with
 | none=>none
 | some n=>some (acc ++ unq (r.take (n - 1)),i+n,match z with | some j=>some j | none=>(idx 0 (r.take n)).map (·+i))
theorem qR_nil (i:Nat) (acc:List UInt8) (z:Option Nat):qR [] i acc z=none:=rfl
theorem qR_end {r:List UInt8} (h:r.head? ≠ some 39) (i:Nat) (acc:List UInt8) (z:Option Nat):qR (39 :: r) i acc z=some (acc,i+1,z):=by
 have e:qEnd (39 :: r)=some 1:=by
  cases r with
  | nil=>rfl
  | cons d r=>
   have hd:d ≠ 39:=fun e=>h (by rw [e];rfl)
   rw [qEnd,if_pos rfl,if_neg hd]
 unfold qR
 rw [e]
 cases z <;> simp [unq,idx]
theorem qR_two (r:List UInt8) (i:Nat) (acc:List UInt8) (z:Option Nat):qR (39 :: 39 :: r) i acc z=qR r (i+2) (acc ++ [39]) z:=by
 unfold qR
 rw [qEnd,if_pos rfl,if_pos rfl]
 cases hq:qEnd r with
 | none=>rfl
 | some n=>
  have:=(qEnd_bounds r n hq).1
  obtain ⟨m,rfl⟩:∃ m,n=m+1:=⟨n - 1,by omega⟩
  simp only[Option.map_some,Nat.add_sub_cancel]
  rw [show m+1+2 - 1=m+2 by omega,List.take_succ_cons,List.take_succ_cons,unq,if_pos ⟨rfl,rfl⟩,List.take_succ_cons,List.take_succ_cons,idx,if_neg (by decide),idx,if_neg (by decide)]
  congr 1
  refine Prod.ext (by simp) (Prod.ext (by simp;omega) ?_)
  cases z with
  | some j=>rfl
  | none=>cases idx 0 (r.take (m+1)) with
   | none=>rfl
   | some j=>simp;omega
theorem unq_cons {c:UInt8} (h:c ≠ 39) (r:List UInt8):unq (c :: r)=c :: unq r:=by
 cases r with
 | nil=>rfl
 | cons d r=>rw [unq,if_neg (fun e=>h e.1)]
theorem qR_other {c:UInt8} (h:c ≠ 39) (r:List UInt8) (i:Nat) (acc:List UInt8) (z:Option Nat):qR (c :: r) i acc z=qR r (i+1) (acc ++ [c]) (fzX z c i):=by
 unfold qR
 rw [qEnd_none h]
 cases hq:qEnd r with
 | none=>rfl
 | some n=>
  have:=(qEnd_bounds r n hq).1
  obtain ⟨m,rfl⟩:∃ m,n=m+1:=⟨n - 1,by omega⟩
  simp only[Option.map_some,Nat.add_sub_cancel]
  rw [List.take_succ_cons,unq_cons h,List.take_succ_cons,idx]
  congr 1
  refine Prod.ext (by simp) (Prod.ext (by simp;omega) ?_)
  cases z with
  | some j=>rfl
  | none=>
   by_cases h0:c=0
   · simp [fzX,h0]
   · rw [if_neg h0]
     simp only[fzX,if_neg h0]
     cases idx 0 (r.take (m+1)) with
     | none=>rfl
     | some j=>simp;omega
theorem conv_own {w:World} {B m:Nat} {v:Value} (l:List UInt8) (h:w.ownsRow B 5 1 v m (byteCells l)) (hm:m=l.length) (hl:l.length ≤ 1000000):(convert 52 9 v).run Tryz.prog w=.ok (.string ⟨l.toArray⟩) w:=by
 subst hm
 exact conv_any v _ l w (rb_own h (by omega))
/-- What text tells. -/
def TextP (l:List UInt8) (at':Nat) (e:Ending):Prop:=match qR (l.drop (at'+1)) (at'+1) [] none with
 | none=>e=.returned (.tuple #[sv [],.int .i64 0,.int .i64 (at':Int)])
 | some (t,n,z)=>e=.returned (.tuple #[sv t,.int .i64 (n:Int),.int .i64 (zIX z)])
theorem text_any (l:List UInt8) (at':Nat) (w:World) (hl:l.length ≤ 1000000) (ha:at' < l.length):Calls Tryz.prog 141 #[sv l,.int .i64 (at':Int)] w fun e w'=>TextP l at' e∧Below w.heap.size w w':=by
 have hl':(l.length:Int) ≤ 1000000:=by omega
 have ha0:(0:Int) ≤ (at':Int):=by omega
 have hal:(at':Int) < (l.length:Int):=by omega
 obtain ⟨R,hR⟩:∃ R,R=qR (l.drop (at'+1)) (at'+1) [] none:=⟨_,rfl⟩
 have HR:=V hR
 have HP:Hid (∀ e,(match R with
  | none=>e=.returned (.tuple #[sv [],.int .i64 0,.int .i64 (at':Int)])
  | some (t,n,z)=>e=.returned (.tuple #[sv t,.int .i64 (n:Int),.int .i64 (zIX z)]))→TextP l at' e):=fun e h=>by unfold TextP;rw [← U HR];exact h
 obtain ⟨P,hP⟩:∃ P,P=TextP l at':=⟨_,rfl⟩
 rw [← hP] at HP ⊢
 clear hR hP
 unfold sv
 go_enter Tryz.func141,Tryz.ntmps141
 go_wp2_with fail
 go_loopw [7,8,9] (fun b z i wr=>∃ (k m:Nat) (a:Option Addr) (c:Nat) (zo:Option Nat),k ≤ l.length∧i=.int .i64 (k:Int)∧b=.slice a m c∧z=.int .i64 (zIX zo)∧m ≤ k∧Hid (∃ acc:List UInt8,m=acc.length∧wr.ownsRow w.heap.size 5 1 (.slice a m c) m (byteCells acc)∧Below w.heap.size w wr∧R=qR (l.drop k) k acc zo)) (fun _ _ i _=>l.length - (intOf i).toNat)
 case atStart=>exact ⟨at'+1,0,none,0,none,by omega,by simp,rfl,rfl,by omega,[],rfl,⟨rfl,.inl ⟨rfl,rfl⟩⟩,Below.refl _ _,U HR⟩
 case round=>
  obtain ⟨k,m,a,cp,zo,hk,rfl,rfl,rfl,hmk,HO⟩:=hrel
  clear HR
  obtain ⟨acc,hm,ho,hb,hq⟩:=U HO
  have HO1:=V ho
  have HB1:=V hb
  have HM:=V hm
  have zs:=hb.size
  clear HO ho hb hm
  by_cases hlt:k < l.length
  · have hlt':(k:Int) < (l.length:Int):=by omega
    have hk0:(0:Int) ≤ (k:Int):=by omega
    obtain ⟨c,hc⟩:∃ c,l[k]?=some c:=⟨l[k],List.getElem?_eq_getElem hlt⟩
    have hdr:l.drop k=c :: l.drop (k+1):=by
     rw [List.drop_eq_getElem_cons hlt]
     rw [List.getElem?_eq_getElem hlt] at hc
     injection hc with hc;rw [hc]
    rw [hdr] at hq
    have hi:=idx_run l k _ c wr rfl hc
    clear hc hdr
    by_cases h39:c=39
    · subst h39
      by_cases hend:k+1=l.length
      · rw [List.drop_eq_nil_of_le (show l.length ≤ k+1 by omega),qR_end (by simp)] at hq
        have hend':(k:Int)+1=(l.length:Int):=by omega
        have HQ:=V hq
        have hcv:=conv_own acc (U HO1) (U HM) (by rw [← U HM];omega)
        clear hq
        go_wp2_with fail
        go_ret3
        refine ⟨U HP _ ?_,U HB1⟩
        rw [U HQ]
        show Ending.returned _=Ending.returned _
        rw [show ((k+1:Nat):Int)=(l.length:Int) by omega];rfl
      · have hend':¬ (k:Int)+1=(l.length:Int):=by omega
        have hk1:k+1 < l.length:=by omega
        have hk1':(k:Int)+1 < (l.length:Int):=by omega
        obtain ⟨d,hd⟩:∃ d,l[k+1]?=some d:=⟨l[k+1],List.getElem?_eq_getElem hk1⟩
        have hdr:l.drop (k+1)=d :: l.drop (k+2):=by
         rw [List.drop_eq_getElem_cons hk1]
         rw [List.getElem?_eq_getElem hk1] at hd
         injection hd with hd;rw [hd]
        rw [hdr] at hq
        have hi2:=idx_run l (k+1) ((k:Int)+1) d wr (by omega) hd
        clear hd hdr
        by_cases h39:d=39
        · subst h39
          rw [qR_two] at hq
          have HQ:=V hq
          clear hq
          go_wp2_with (at_builtin;refine append1 rfl (.tmp 50) (.tmp 54) 52 rfl w.heap.size 5 (.int .u8 0) 1 1 Tryz.underlying52 Tryz.infoU8 rfl (by decide) (by decide) _ _ _ rfl (own_keepX (U HO1) ((Below.refl _ _).alloc (Nat.le_refl _) _)) wr.heap.size [_] rfl (heap_alloc_new _ _) rfl one_cell (by omega) (by simp;omega) ?_;intro ad2 k2 w2 ho2 hb2;have HO2:=V ho2;have HB2:=V ((U HB1).trans ((((Below.refl wr.heap.size wr).alloc (Nat.le_refl _) _).mono (U HB1).size).trans hb2));clear ho2 hb2 HO1)
          go_roundw
          case rel=>exact ⟨k+2,m+1,_,_,zo,by omega,by go_num,rfl,rfl,by omega,acc ++ [39],by rw [List.length_append,← U HM];rfl,by have h:=U HO2;simpa [byteCells] using h,U HB2,U HQ⟩
          case measure=>simp [intOf];omega
        · have hd39:((d.toNat:Int) != 39)=true:=by
           simp only[bne_iff_ne,ne_eq]
           intro e
           exact h39 (UInt8.toNat_inj.1 (by show d.toNat=39;omega))
          rw [qR_end (by simpa using h39)] at hq
          have HQ:=V hq
          have hcv:=conv_own acc (U HO1) (U HM) (by rw [← U HM];omega)
          clear hq h39
          go_wp2_with fail
          go_ret3
          refine ⟨U HP _ ?_,U HB1⟩
          rw [U HQ]
          show Ending.returned _=Ending.returned _
          rw [show ((k+1:Nat):Int)=(k:Int)+1 by omega];rfl
    · rw [qR_other h39] at hq
      have hc39:((c.toNat:Int) == 39)=false:=by
       simp only[beq_eq_false_iff_ne,ne_eq]
       intro e
       exact h39 (UInt8.toNat_inj.1 (by show c.toNat=39;omega))
      clear h39
      by_cases h0:c=0
      · subst h0
        cases zo with
        | none=>
         have HQ:Hid (R=qR (l.drop (k+1)) (k+1) (acc ++ [0]) (some k)):=hq
         clear hq
         simp only[zIX]
         go_wp2_with (at_builtin;refine append1 rfl (.tmp 50) (.tmp 54) 52 rfl w.heap.size 5 (.int .u8 0) 1 1 Tryz.underlying52 Tryz.infoU8 rfl (by decide) (by decide) _ _ _ rfl (own_keepX (U HO1) ((Below.refl _ _).alloc (Nat.le_refl _) _)) wr.heap.size [_] rfl (heap_alloc_new _ _) rfl one_cell (by omega) (by simp;omega) ?_;intro ad2 k2 w2 ho2 hb2;have HO2:=V ho2;have HB2:=V ((U HB1).trans ((((Below.refl wr.heap.size wr).alloc (Nat.le_refl _) _).mono (U HB1).size).trans hb2));clear ho2 hb2 HO1)
         go_roundw
         case rel=>exact ⟨k+1,m+1,_,_,some k,by omega,by go_num,rfl,rfl,by omega,acc ++ [0],by rw [List.length_append,← U HM];rfl,by have h:=U HO2;simpa [byteCells] using h,U HB2,U HQ⟩
         case measure=>simp [intOf];omega
        | some z0=>
         have HQ:Hid (R=qR (l.drop (k+1)) (k+1) (acc ++ [0]) (some z0)):=hq
         clear hq
         simp only[zIX]
         go_wp2_with (at_builtin;refine append1 rfl (.tmp 50) (.tmp 54) 52 rfl w.heap.size 5 (.int .u8 0) 1 1 Tryz.underlying52 Tryz.infoU8 rfl (by decide) (by decide) _ _ _ rfl (own_keepX (U HO1) ((Below.refl _ _).alloc (Nat.le_refl _) _)) wr.heap.size [_] rfl (heap_alloc_new _ _) rfl one_cell (by omega) (by simp;omega) ?_;intro ad2 k2 w2 ho2 hb2;have HO2:=V ho2;have HB2:=V ((U HB1).trans ((((Below.refl wr.heap.size wr).alloc (Nat.le_refl _) _).mono (U HB1).size).trans hb2));clear ho2 hb2 HO1)
         go_roundw
         case rel=>exact ⟨k+1,m+1,_,_,some z0,by omega,by go_num,rfl,rfl,by omega,acc ++ [0],by rw [List.length_append,← U HM];rfl,by have h:=U HO2;simpa [byteCells] using h,U HB2,U HQ⟩
         case measure=>simp [intOf];omega
      · have hc0:((c.toNat:Int) == 0)=false:=by
         simp only[beq_eq_false_iff_ne,ne_eq]
         intro e
         exact h0 (UInt8.toNat_inj.1 (by show c.toNat=0;omega))
        have e0:fzX zo c k=zo:=by cases zo <;> simp [fzX,h0]
        rw [e0] at hq
        have HQ:=V hq
        clear hq h0 e0
        go_wp2_with (at_builtin;refine append1 rfl (.tmp 50) (.tmp 54) 52 rfl w.heap.size 5 (.int .u8 0) 1 1 Tryz.underlying52 Tryz.infoU8 rfl (by decide) (by decide) _ _ _ rfl (own_keepX (U HO1) ((Below.refl _ _).alloc (Nat.le_refl _) _)) wr.heap.size [_] rfl (heap_alloc_new _ _) rfl one_cell (by omega) (by simp;omega) ?_;intro ad2 k2 w2 ho2 hb2;have HO2:=V ho2;have HB2:=V ((U HB1).trans ((((Below.refl wr.heap.size wr).alloc (Nat.le_refl _) _).mono (U HB1).size).trans hb2));clear ho2 hb2 HO1)
        go_roundw
        case rel=>exact ⟨k+1,m+1,_,_,zo,by omega,by go_num,rfl,rfl,by omega,acc ++ [c],by rw [List.length_append,← U HM];rfl,by have h:=U HO2;simpa [byteCells] using h,U HB2,U HQ⟩
        case measure=>simp [intOf];omega
  · have hlt':¬ ((k:Int) < (l.length:Int)):=by omega
    rw [List.drop_eq_nil_of_le (by omega),qR_nil] at hq
    have HQ:=V hq
    clear hq
    go_wp2_with fail
    go_ret3
    refine ⟨U HP _ ?_,U HB1⟩
    rw [U HQ]
    rfl
end Go.Proofs.YtpnonhjmpnbmcaaGreatDoor
