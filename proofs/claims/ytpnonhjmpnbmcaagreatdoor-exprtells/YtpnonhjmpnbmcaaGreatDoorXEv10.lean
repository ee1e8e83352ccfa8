/- Package expr: column. -/
import Derived.Test.YtpnonhjmpnbmcaaGreatDoorJXEv6XEv8
namespace Go.Proofs.YtpnonhjmpnbmcaaGreatDoor
open Go.RowKit Go.Lib
open Act (put)
set_option linter.unusedSimpArgs false
set_option linter.unusedVariables false
set_option maxHeartbeats 6400000
set_option maxRecDepth 20000
/-- A slice's values. -/
def RwAt (w:World) (a:Option Addr) (k:Nat) (row:List GV):Prop:=row.length ≤ 1000∧(row=[] ∨ ∃ b o,a=some ⟨b,o,none⟩∧row.length ≤ k∧k ≤ maxLen∧∀ i g,row[i]?=some g→w.rangeAt b (o+3 * i) (gvC g))
theorem rwAt_nil {w:World} {a:Option Addr} {k:Nat}:RwAt w a k []:=⟨Nat.zero_le _,.inl rfl⟩
theorem RwAt.below {w w':World} {a:Option Addr} {k:Nat} {row:List GV} (h:RwAt w a k row) (hb:Below w.heap.size w w'):RwAt w' a k row:=by
 obtain ⟨hl,h2⟩:=h
 refine ⟨hl,?_⟩
 rcases h2 with h2 | ⟨b,o,ha,hk,hkm,h2⟩
 · exact .inl h2
 · refine .inr ⟨b,o,ha,hk,hkm,fun i g hi j v hj=>?_⟩
   have hc:=h2 i g hi j v hj
   exact (hb.cell (p:=⟨b,o+3 * i+j,none⟩) (World.block_lt_of_cell? w _ hc)).trans hc
/-- What stands under an expression: such a row, no group. -/
def GrAt (w:World) (pg:Nat) (row:List GV):Prop:=∃ a k,w.cell? ⟨pg,0,none⟩=some (.slice a row.length k)∧w.cell? ⟨pg,1,none⟩=some (.bool false)∧RwAt w a k row
theorem GrAt.below {w w':World} {pg:Nat} {row:List GV} (h:GrAt w pg row) (hb:Below w.heap.size w w'):GrAt w' pg row:=by
 obtain ⟨a,k,h0,h1,h2⟩:=h
 have hp:pg < w.heap.size:=World.block_lt_of_cell? w _ h0
 exact ⟨a,k,(hb.cell (p:=⟨pg,0,none⟩) hp).trans h0,(hb.cell (p:=⟨pg,1,none⟩) hp).trans h1,h2.below hb⟩
def colG (row:List GV) (at':Int):GV × Int:=match row[at'.toNat]? with | some g=>if at' < 0 then (nullG,20) else soundE g | none=>(nullG,20)
theorem column_any (row:List GV) (hok:∀ g ∈ row,g.ok) (at':Int) (w:World) (pg:Nat) (hg:GrAt w pg row):Calls Tryz.prog 62 #[.pointer (some ⟨pg,0,none⟩),.int .i64 at'] w (GeP w (colG row at')):=by
 obtain ⟨a,k,h0,h1,hl,h2⟩:=hg
 have HC0:=V h0
 have HC1:=V h1
 have HPG:Hid (pg < w.heap.size):=World.block_lt_of_cell? w _ h0
 have hlI:(row.length:Int) ≤ 1000:=by omega
 clear h0 h1
 obtain ⟨R,hR⟩:∃ R,R=colG row at':=⟨_,rfl⟩
 rw [← hR]
 obtain ⟨PP,hPP⟩:∃ PP,PP=GeP w R:=⟨_,rfl⟩
 have HPP:=V hPP
 rw [← hPP]
 clear hPP
 go_enter Tryz.func62,Tryz.ntmps62
 go_upto_region 1 with fail
 obtain ⟨w0,hw0⟩:∃ w0,w0=w.alloc (.cells (gvC nullG).toArray 26):=⟨_,rfl⟩
 have hb0:Below w.heap.size w w0:=by rw [hw0];exact alX (Below.refl _ _) _
 have HV:=V (show VV w0 w.heap.size nullG by rw [hw0];exact VV.new w nullG)
 have HB:=V hb0
 rw [show (gvC nullG).toArray=#[.int .i64 0,.int .i64 0,.string ⟨#[]⟩] from rfl] at hw0
 rw [← hw0]
 clear hw0 hb0
 have HC0:=V (((U HB).cell (p:=⟨pg,0,none⟩) (U HPG)).trans (U HC0))
 have HC1:=V (((U HB).cell (p:=⟨pg,1,none⟩) (U HPG)).trans (U HC1))
 refine wp_region_list ?_
 have c1:=U HC1
 refine lt 7 (.pointer (some ⟨pg,0,none⟩)) ?_
 refine lt 8 (.pointer (some ⟨pg,0,none⟩)) ?_
 refine lt 9 (.pointer (some ⟨pg,1,none⟩)) ?_
 simp only[put,sA,sB,sC]
 refine list_to (d:=10) (v:=.bool false) rfl rfl (by go_simp) ?_
 simp only[put,sA,sB,sC]
 clear c1
 refine lt 11 (.bool false) ?_
 simp only[put,sA,sB,sC]
 refine list_skip (d:=12) rfl (by kernel_rfl) ?_
 simp only[put,sA,sB,sC]
 refine list_skip (d:=13) rfl (by kernel_rfl) ?_
 simp only[put,sA,sB,sC]
 refine list_skip (d:=14) rfl (by kernel_rfl) ?_
 simp only[put,sA,sB,sC]
 refine list_skip (d:=15) rfl (by kernel_rfl) ?_
 simp only[put,sA,sB,sC]
 refine list_skip (d:=16) rfl (by kernel_rfl) ?_
 simp only[put,sA,sB,sC]
 refine list_skip (d:=17) rfl (by kernel_rfl) ?_
 refine lt 18 (.bool false) ?_
 refine lt 6 (.bool false) ?_
 simp only[put,sA,sB,sC]
 go_upto_region 3 with fail
 refine wp_region_list ?_
 refine lt 21 (.int .i64 at') ?_
 simp only[put,sA,sB,sC]
 refine list_to (d:=22) (v:=.bool (decide (at' < 0))) rfl rfl (by go_simp) ?_
 simp only[put,sA,sB,sC]
 by_cases hn:at' < 0
 · skip
   as_aux_lemma=>
    have HR:Hid (R=(nullG,20)):=by
     show R=_
     rw [hR]
     unfold colG
     cases row[at'.toNat]? with
     | none=>rfl
     | some g=>exact if_pos hn
    rw [show decide (at' < 0)=true from decide_eq_true hn]
    refine lt 23 (.bool true) ?_
    simp only[put,sA,sB,sC]
    refine list_skip (d:=24) rfl (by kernel_rfl) ?_
    simp only[put,sA,sB,sC]
    refine list_skip (d:=25) rfl (by kernel_rfl) ?_
    simp only[put,sA,sB,sC]
    refine list_skip (d:=26) rfl (by kernel_rfl) ?_
    simp only[put,sA,sB,sC]
    refine list_skip (d:=27) rfl (by kernel_rfl) ?_
    simp only[put,sA,sB,sC]
    refine list_skip (d:=28) rfl (by kernel_rfl) ?_
    simp only[put,sA,sB,sC]
    refine list_skip (d:=29) rfl (by kernel_rfl) ?_
    simp only[put,sA,sB,sC]
    refine list_skip (d:=30) rfl (by kernel_rfl) ?_
    refine lt 31 (.bool true) ?_
    refine lt 20 (.bool true) ?_
    simp only[put,sA,sB,sC]
    go_upto_region 4 with fail
    refine wp_region_list ?_
    refine lt 32 (.agg (gvC nullG).toArray) ?_
    refine lt 33 (errG 20) ?_
    simp only[put,sA,sB,sC]
    refine wpList_store_mid rfl 26 (.tmp 4) (.tmp 32) rfl w.heap.size 0 (gvC nullG).toArray rfl rfl (U HV).there sizeV (all_oneCell_toArray (gvC_one _)) ?_
    show wpList _ _ _ _ _ (w0.setCells w.heap.size 0 (gvC nullG))
    refine lt 5 (errG 20) ?_
    simp only[put,sA,sB,sC]
    go_wp2_with fail
    refine bodyPost_ret (((U HV).set nullG).result2 rfl _ rfl) rfl ?_
    rw [U HPP,U HR]
    exact ⟨rfl,below_setCells0 (U HB) (Nat.le_refl _) _⟩
 by_cases hm:(row.length:Int) ≤ at'
 · skip
   as_aux_lemma=>
    have HR:Hid (R=(nullG,20)):=by
     show R=_
     rw [hR]
     unfold colG
     rw [List.getElem?_eq_none (by omega)]
    rw [show decide (at' < 0)=false from decide_eq_false hn]
    refine lt 23 (.bool false) ?_
    simp only[put,sA,sB,sC]
    have c0:=U HC0
    refine list_want (d:=24) (v:=.int .i64 at') rfl (by kernel_rfl) (by kernel_rfl) ?_
    simp only[put,sA,sB,sC]
    refine list_want (d:=25) (v:=.pointer (some ⟨pg,0,none⟩)) rfl (by kernel_rfl) (by kernel_rfl) ?_
    simp only[put,sA,sB,sC]
    refine list_want (d:=26) (v:=.pointer (some ⟨pg,0,none⟩)) rfl (by kernel_rfl) (by kernel_rfl) ?_
    simp only[put,sA,sB,sC]
    refine list_want (d:=27) (v:=.pointer (some ⟨pg,0,none⟩)) rfl (by kernel_rfl) (by kernel_rfl) ?_
    simp only[put,sA,sB,sC]
    refine list_want (d:=28) (v:=.slice a row.length k) rfl (by kernel_rfl) (by go_simp) ?_
    simp only[put,sA,sB,sC]
    clear c0
    refine list_want (d:=29) (v:=.int .i64 (row.length:Int)) rfl (by kernel_rfl) (by kernel_rfl) ?_
    simp only[put,sA,sB,sC]
    refine list_want (d:=30) (v:=.bool (decide ((row.length:Int) ≤ at'))) rfl (by kernel_rfl) (by go_simp) ?_
    simp only[put,sA,sB,sC]
    rw [show decide ((row.length:Int) ≤ at')=true from decide_eq_true hm]
    refine lt 31 (.bool true) ?_
    refine lt 20 (.bool true) ?_
    simp only[put,sA,sB,sC]
    go_upto_region 4 with fail
    refine wp_region_list ?_
    refine lt 32 (.agg (gvC nullG).toArray) ?_
    refine lt 33 (errG 20) ?_
    simp only[put,sA,sB,sC]
    refine wpList_store_mid rfl 26 (.tmp 4) (.tmp 32) rfl w.heap.size 0 (gvC nullG).toArray rfl rfl (U HV).there sizeV (all_oneCell_toArray (gvC_one _)) ?_
    show wpList _ _ _ _ _ (w0.setCells w.heap.size 0 (gvC nullG))
    refine lt 5 (errG 20) ?_
    simp only[put,sA,sB,sC]
    go_wp2_with fail
    refine bodyPost_ret (((U HV).set nullG).result2 rfl _ rfl) rfl ?_
    rw [U HPP,U HR]
    exact ⟨rfl,below_setCells0 (U HB) (Nat.le_refl _) _⟩
 · skip
   as_aux_lemma=>
    obtain ⟨i,rfl⟩:∃ i:Nat,at'=(i:Int):=⟨at'.toNat,by omega⟩
    have hi:i < row.length:=by omega
    obtain ⟨g,hg⟩:∃ g,row[i]?=some g:=⟨_,List.getElem?_eq_getElem hi⟩
    have HR:Hid (R=soundE g):=by
     show R=_
     rw [hR]
     unfold colG
     rw [Int.toNat_natCast,hg]
     exact if_neg hn
    rcases h2 with h2 | ⟨b,o,rfl,hk,hkm,h2⟩
    · rw [h2] at hi
      exact absurd hi (Nat.not_lt_zero _)
    have HRG:Hid (w0.rangeAt b (o+3 * i) (gvC g)):=fun j v hj=>by
     have hc:=h2 i g hg j v hj
     exact ((U HB).cell (p:=⟨b,o+3 * i+j,none⟩) (World.block_lt_of_cell? w _ hc)).trans hc
    have HSO:=V (fun W=>soundE_any g (hok g (List.mem_of_getElem? hg)) W)
    have hiI:(i:Int) < (row.length:Int):=by omega
    have hi0:(0:Int) ≤ (i:Int):=by omega
    clear h2 hR
    rw [show decide ((i:Int) < 0)=false from decide_eq_false hn]
    refine lt 23 (.bool false) ?_
    simp only[put,sA,sB,sC]
    have c0:=U HC0
    refine list_want (d:=24) (v:=.int .i64 (i:Int)) rfl (by kernel_rfl) (by kernel_rfl) ?_
    simp only[put,sA,sB,sC]
    refine list_want (d:=25) (v:=.pointer (some ⟨pg,0,none⟩)) rfl (by kernel_rfl) (by kernel_rfl) ?_
    simp only[put,sA,sB,sC]
    refine list_want (d:=26) (v:=.pointer (some ⟨pg,0,none⟩)) rfl (by kernel_rfl) (by kernel_rfl) ?_
    simp only[put,sA,sB,sC]
    refine list_want (d:=27) (v:=.pointer (some ⟨pg,0,none⟩)) rfl (by kernel_rfl) (by kernel_rfl) ?_
    simp only[put,sA,sB,sC]
    refine list_want (d:=28) (v:=.slice (some ⟨b,o,none⟩) row.length k) rfl (by kernel_rfl) (by go_simp) ?_
    simp only[put,sA,sB,sC]
    clear c0
    refine list_want (d:=29) (v:=.int .i64 (row.length:Int)) rfl (by kernel_rfl) (by kernel_rfl) ?_
    simp only[put,sA,sB,sC]
    refine list_want (d:=30) (v:=.bool (decide ((row.length:Int) ≤ (i:Int)))) rfl (by kernel_rfl) (by go_simp) ?_
    simp only[put,sA,sB,sC]
    rw [show decide ((row.length:Int) ≤ (i:Int))=false from decide_eq_false hm]
    refine lt 31 (.bool false) ?_
    refine lt 20 (.bool false) ?_
    simp only[put,sA,sB,sC]
    go_upto_region 5 with fail
    refine wp_region_list ?_
    have c0:=U HC0
    refine lt 34 (.pointer (some ⟨pg,0,none⟩)) ?_
    refine lt 35 (.pointer (some ⟨pg,0,none⟩)) ?_
    refine lt 36 (.pointer (some ⟨pg,0,none⟩)) ?_
    simp only[put,sA,sB,sC]
    refine list_to (d:=37) (v:=.slice (some ⟨b,o,none⟩) row.length k) rfl rfl (by go_simp) ?_
    simp only[put,sA,sB,sC]
    clear c0
    refine lt 38 (.int .i64 (i:Int)) ?_
    simp only[put,sA,sB,sC]
    refine list_to (d:=39) (v:=.pointer (some ⟨b,o+3 * i,none⟩)) rfl rfl (by go_simp) ?_
    simp only[put,sA,sB,sC]
    refine wpList_load_mid rfl 26 (.tmp 39) rfl b (o+3 * i) rfl (gvC g) _ (U HRG) Tryz.underlying26 rfl sizeV ?_
    refine list_call rfl (some 41) rfl 61 #[.agg (gvC g).toArray] (by kernel_rfl) (U HSO w0) ?_
    rintro e w5 ⟨rfl,hb⟩
    refine ⟨_,rfl,?_⟩
    simp only[put,sA,sB,sC]
    have HB:=V (trX (U HB) hb)
    have HV:=V ((U HV).below hb)
    clear hb
    refine lt 42 (.agg (gvC (soundE g).1).toArray) ?_
    refine lt 43 (errG (soundE g).2) ?_
    simp only[put,sA,sB,sC]
    refine wpList_store_mid rfl 26 (.tmp 4) (.tmp 42) rfl w.heap.size 0 (gvC (soundE g).1).toArray rfl rfl (U HV).there sizeV (all_oneCell_toArray (gvC_one _)) ?_
    show wpList _ _ _ _ _ (w5.setCells w.heap.size 0 (gvC (soundE g).1))
    refine lt 5 (errG (soundE g).2) ?_
    simp only[put,sA,sB,sC]
    go_wp2_with fail
    refine bodyPost_ret (((U HV).set (soundE g).1).result2 rfl _ rfl) rfl ?_
    rw [U HPP,U HR]
    exact ⟨rfl,below_setCells0 (U HB) (Nat.le_refl _) _⟩
theorem eval_k2 (w:World) (pg be oe n k:Nat) (av:Option Addr) (lo hi:Int) (R:GV × Int) (c0:w.cell? ⟨be,oe,none⟩=some (.int .i64 2)) (c7:w.cell? ⟨be,oe+7,none⟩=some (.slice av n k)) (har:∀ W,Below w.heap.size w W→Calls Tryz.prog 60 #[.pointer (some ⟨be,oe,none⟩)] W fun e w'=>e=.returned (.tuple #[.int .i64 lo,.int .i64 hi])∧w'=W) (at':Int) (c8:w.cell? ⟨be,oe+8,none⟩=some (.int .i64 at')) (h1:¬ (n:Int) < lo) (h2:¬ hi < (n:Int)) (hin:∀ W,Below w.heap.size w W→Calls Tryz.prog 62 #[.pointer (some ⟨pg,0,none⟩),.int .i64 at'] W (GeP W R)):Calls Tryz.prog 28 #[.pointer (some ⟨pg,0,none⟩),.pointer (some ⟨be,oe,none⟩)] w (GeP w R):=by
 have HIN:=V hin
 clear hin
 have HC8:=V c8
 clear c8
 have HC0:Hid (w.cell? ⟨be,oe,none⟩=some (.int .i64 2)):=c0
 have HBE:Hid (be < w.heap.size):=World.block_lt_of_cell? w _ c0
 have HC7:Hid (w.cell? ⟨be,oe+7,none⟩=some (.slice av n k)):=c7
 have HAR:=V har
 clear c0 c7 har
 obtain ⟨PP,hPP⟩:∃ PP,PP=GeP w R:=⟨_,rfl⟩
 have HPP:=V hPP
 rw [← hPP]
 clear hPP
 go_enter Tryz.func28,Tryz.ntmps28
 go_upto_region 1 with fail
 obtain ⟨w0,hw0⟩:∃ w0,w0=w.alloc (.cells (gvC nullG).toArray 26):=⟨_,rfl⟩
 have hb0:Below w.heap.size w w0:=by rw [hw0];exact alX (Below.refl _ _) _
 have HV:=V (show VV w0 w.heap.size nullG by rw [hw0];exact VV.new w nullG)
 have HB:=V hb0
 rw [show (gvC nullG).toArray=#[.int .i64 0,.int .i64 0,.string ⟨#[]⟩] from rfl] at hw0
 rw [← hw0]
 clear hw0 hb0
 have HC0:=V (((U HB).cell (p:=⟨be,oe,none⟩) (U HBE)).trans (U HC0))
 have HC7:=V (((U HB).cell (p:=⟨be,oe+7,none⟩) (U HBE)).trans (U HC7))
 refine wp_region_list ?_
 refine lt 9 (.pointer (some ⟨be,oe,none⟩)) ?_
 refine list_call rfl (some 10) rfl 60 #[.pointer (some ⟨be,oe,none⟩)] (by kernel_rfl) (U HAR w0 (U HB)) ?_
 rintro e w9 ⟨rfl,hw9⟩
 refine ⟨_,rfl,?_⟩
 simp only[put,sA,sB,sC]
 rw [hw9]
 clear hw9 w9
 refine lt 8 (.tuple #[.int .i64 lo,.int .i64 hi]) ?_
 refine lt 11 (.int .i64 lo) ?_
 refine lt 12 (.int .i64 hi) ?_
 refine lt 6 (.int .i64 lo) ?_
 refine lt 7 (.int .i64 hi) ?_
 simp only[put,sA,sB,sC]
 go_upto_region 2 with fail
 refine wp_region_list ?_
 have c7:=U HC7
 refine lt 13 (.pointer (some ⟨be,oe,none⟩)) ?_
 refine lt 14 (.pointer (some ⟨be,oe,none⟩)) ?_
 refine lt 15 (.pointer (some ⟨be,oe+7,none⟩)) ?_
 simp only[put,sA,sB,sC]
 refine list_to (d:=16) (v:=.slice av n k) rfl rfl (by go_simp) ?_
 simp only[put,sA,sB,sC]
 clear c7
 refine lt 17 (.int .i64 (n:Int)) ?_
 refine lt 18 (.int .i64 lo) ?_
 simp only[put,sA,sB,sC]
 refine list_to (d:=19) (v:=.bool (decide ((n:Int) < lo))) rfl rfl (by go_simp) ?_
 simp only[put,sA,sB,sC]
 have HC8:=V (((U HB).cell (p:=⟨be,oe+8,none⟩) (U HBE)).trans (U HC8))
 have e1:decide ((n:Int) < lo)=false:=decide_eq_false h1
 have e2:decide (hi < (n:Int))=false:=decide_eq_false h2
 rw [e1]
 refine lt 20 (.bool false) ?_
 simp only[put,sA,sB,sC]
 have c7:=U HC7
 refine list_want (d:=21) (v:=.pointer (some ⟨be,oe,none⟩)) rfl (by kernel_rfl) (by kernel_rfl) ?_
 simp only[put,sA,sB,sC]
 refine list_want (d:=22) (v:=.pointer (some ⟨be,oe,none⟩)) rfl (by kernel_rfl) (by kernel_rfl) ?_
 simp only[put,sA,sB,sC]
 refine list_want (d:=23) (v:=.pointer (some ⟨be,oe+7,none⟩)) rfl (by kernel_rfl) (by kernel_rfl) ?_
 simp only[put,sA,sB,sC]
 refine list_want (d:=24) (v:=.slice av n k) rfl (by kernel_rfl) (by go_simp) ?_
 simp only[put,sA,sB,sC]
 clear c7
 refine list_want (d:=25) (v:=.int .i64 (n:Int)) rfl (by kernel_rfl) (by kernel_rfl) ?_
 simp only[put,sA,sB,sC]
 refine list_want (d:=26) (v:=.int .i64 hi) rfl (by kernel_rfl) (by kernel_rfl) ?_
 simp only[put,sA,sB,sC]
 refine list_want (d:=27) (v:=.bool (decide (hi < (n:Int)))) rfl (by kernel_rfl) (by go_simp) ?_
 simp only[put,sA,sB,sC]
 rw [e2]
 refine lt 28 (.bool false) ?_
 simp only[put,sA,sB,sC]
 go_upto_region 4 with fail
 refine wp_region_list ?_
 have c0:=U HC0
 refine lt 31 (.pointer (some ⟨be,oe,none⟩)) ?_
 refine lt 32 (.pointer (some ⟨be,oe,none⟩)) ?_
 refine lt 33 (.pointer (some ⟨be,oe,none⟩)) ?_
 simp only[put,sA,sB,sC]
 refine list_to (d:=34) (v:=.int .i64 2) rfl rfl (by go_simp) ?_
 simp only[put,sA,sB,sC]
 clear c0
 as_aux_lemma=>
  go_upto_region 8 with fail
  refine wp_region_list ?_
  refine lt 46 (.pointer (some ⟨pg,0,none⟩)) ?_
  refine lt 47 (.pointer (some ⟨be,oe,none⟩)) ?_
  refine lt 48 (.pointer (some ⟨be,oe,none⟩)) ?_
  refine lt 49 (.pointer (some ⟨be,oe+8,none⟩)) ?_
  simp only[put,sA,sB,sC]
  have c8:=U HC8
  refine list_to (d:=50) (v:=.int .i64 at') rfl rfl (by go_simp) ?_
  simp only[put,sA,sB,sC]
  clear c8
  refine list_call rfl (some 51) rfl 62 #[.pointer (some ⟨pg,0,none⟩),.int .i64 at'] (by kernel_rfl) (U HIN w0 (U HB)) ?_
  rintro e w5 ⟨rfl,hb⟩
  refine ⟨_,rfl,?_⟩
  simp only[put,sA,sB,sC]
  have HB:=V (trX (U HB) hb)
  have HV:=V ((U HV).below hb)
  clear hb
  refine lt 52 (.agg (gvC R.1).toArray) ?_
  refine lt 53 (errG R.2) ?_
  simp only[put,sA,sB,sC]
  refine wpList_store_mid rfl 26 (.tmp 4) (.tmp 52) rfl w.heap.size 0 (gvC R.1).toArray rfl rfl (U HV).there sizeV (all_oneCell_toArray (gvC_one _)) ?_
  show wpList _ _ _ _ _ (w5.setCells w.heap.size 0 (gvC R.1))
  refine lt 5 (errG R.2) ?_
  simp only[put,sA,sB,sC]
  go_wp2_with fail
  refine bodyPost_ret (((U HV).set R.1).result2 rfl _ rfl) rfl ?_
  rw [U HPP]
  exact ⟨rfl,below_setCells0 (U HB) (Nat.le_refl _) _⟩
theorem evN2 {row:List GV} {a:Nd} {L:List (GV × Int)} (hc:¬ ((L.length:Int) < (argK a.kind a.op).1 ∨ (argK a.kind a.op).2 < (L.length:Int))) (hk:a.kind=2):evN row a L=colG row a.at':=by
 unfold evN;rw [if_neg hc,if_neg (by rw [hk];decide),if_pos hk]
 rfl
end Go.Proofs.YtpnonhjmpnbmcaaGreatDoor
