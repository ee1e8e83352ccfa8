/- Package expr: eval, a step. -/
import Derived.Test.YtpnonhjmpnbmcaaGreatDoorXEv4
namespace Go.Proofs.YtpnonhjmpnbmcaaGreatDoor
open Go.RowKit Go.Lib
open Act (put)
set_option linter.unusedSimpArgs false
set_option linter.unusedVariables false
set_option maxHeartbeats 6400000
set_option maxRecDepth 20000
theorem range_val {w:World} {b o:Nat} {n:Nd} {v:Value} (h:w.rangeAt b o (ndC n v)):w.rangeAt b (o+2) (gvC (gvN n)):=by
 intro j u hj
 have:=h (j+2) u
 rw [show o+(j+2)=o+2+j by omega] at this
 apply this
 match j,hj with
 | 0,hj=>exact hj
 | 1,hj=>exact hj
 | 2,hj=>exact hj
 | j+3,hj=>simp [gvC] at hj
theorem eval_cnt (w:World) (pg be oe n k:Nat) (av:Option Addr) (kind lo hi:Int) (c0:w.cell? ⟨be,oe,none⟩=some (.int .i64 kind)) (c7:w.cell? ⟨be,oe+7,none⟩=some (.slice av n k)) (har:∀ W,Below w.heap.size w W→Calls Tryz.prog 60 #[.pointer (some ⟨be,oe,none⟩)] W fun e w'=>e=.returned (.tuple #[.int .i64 lo,.int .i64 hi])∧w'=W) (h:(n:Int) < lo ∨ hi < (n:Int)):Calls Tryz.prog 28 #[.pointer (some ⟨pg,0,none⟩),.pointer (some ⟨be,oe,none⟩)] w (GeP w (nullG,20)):=by
 have HC0:Hid (w.cell? ⟨be,oe,none⟩=some (.int .i64 kind)):=c0
 have HBE:Hid (be < w.heap.size):=World.block_lt_of_cell? w _ c0
 have HC7:Hid (w.cell? ⟨be,oe+7,none⟩=some (.slice av n k)):=c7
 have HAR:=V har
 clear c0 c7 har
 obtain ⟨PP,hPP⟩:∃ PP,PP=GeP w (nullG,20):=⟨_,rfl⟩
 have HPP:=V hPP
 rw [← hPP]
 clear hPP
 go_enter Tryz.func28,Tryz.ntmps28
 go_upto_region 1 with fail
 obtain ⟨w0,hw0⟩:∃ w0,w0=w.alloc (.cells (gvC nullG).toArray 26):=⟨_,rfl⟩
 have hb0:Below w.heap.size w w0:=by rw [hw0];exact alX (Below.refl _ _) _
 have HV:=V (show VV w0 w.heap.size nullG by rw [hw0];exact VV.new w nullG)
 have HB:=V hb0
 rw [show (gvC nullG).toArray=#[.int .i64 0,.int .i64 0,.string ⟨#[]⟩] from rfl] at hw0
 rw [← hw0]
 clear hw0 hb0
 have HC0:=V (((U HB).cell (p:=⟨be,oe,none⟩) (U HBE)).trans (U HC0))
 have HC7:=V (((U HB).cell (p:=⟨be,oe+7,none⟩) (U HBE)).trans (U HC7))
 refine wp_region_list ?_
 refine lt 9 (.pointer (some ⟨be,oe,none⟩)) ?_
 refine list_call rfl (some 10) rfl 60 #[.pointer (some ⟨be,oe,none⟩)] (by kernel_rfl) (U HAR w0 (U HB)) ?_
 rintro e w9 ⟨rfl,hw9⟩
 refine ⟨_,rfl,?_⟩
 simp only[put,sA,sB,sC]
 rw [hw9]
 clear hw9 w9
 refine lt 8 (.tuple #[.int .i64 lo,.int .i64 hi]) ?_
 refine lt 11 (.int .i64 lo) ?_
 refine lt 12 (.int .i64 hi) ?_
 refine lt 6 (.int .i64 lo) ?_
 refine lt 7 (.int .i64 hi) ?_
 simp only[put,sA,sB,sC]
 go_upto_region 2 with fail
 refine wp_region_list ?_
 have c7:=U HC7
 refine lt 13 (.pointer (some ⟨be,oe,none⟩)) ?_
 refine lt 14 (.pointer (some ⟨be,oe,none⟩)) ?_
 refine lt 15 (.pointer (some ⟨be,oe+7,none⟩)) ?_
 simp only[put,sA,sB,sC]
 refine list_to (d:=16) (v:=.slice av n k) rfl rfl (by go_simp) ?_
 simp only[put,sA,sB,sC]
 clear c7
 refine lt 17 (.int .i64 (n:Int)) ?_
 refine lt 18 (.int .i64 lo) ?_
 simp only[put,sA,sB,sC]
 refine list_to (d:=19) (v:=.bool (decide ((n:Int) < lo))) rfl rfl (by go_simp) ?_
 simp only[put,sA,sB,sC]
 by_cases h1:(n:Int) < lo
 · have e1:decide ((n:Int) < lo)=true:=decide_eq_true h1
   rw [e1]
   refine lt 20 (.bool true) ?_
   simp only[put,sA,sB,sC]
   refine list_skip (d:=21) rfl (by kernel_rfl) ?_
   simp only[put,sA,sB,sC]
   refine list_skip (d:=22) rfl (by kernel_rfl) ?_
   simp only[put,sA,sB,sC]
   refine list_skip (d:=23) rfl (by kernel_rfl) ?_
   simp only[put,sA,sB,sC]
   refine list_skip (d:=24) rfl (by kernel_rfl) ?_
   simp only[put,sA,sB,sC]
   refine list_skip (d:=25) rfl (by kernel_rfl) ?_
   simp only[put,sA,sB,sC]
   refine list_skip (d:=26) rfl (by kernel_rfl) ?_
   simp only[put,sA,sB,sC]
   refine list_skip (d:=27) rfl (by kernel_rfl) ?_
   refine lt 28 (.bool true) ?_
   simp only[put,sA,sB,sC]
   as_aux_lemma=>
    go_upto_region 3 with fail
    refine wp_region_list ?_
    refine lt 29 (.agg (gvC nullG).toArray) ?_
    refine lt 30 (errG 20) ?_
    simp only[put,sA,sB,sC]
    refine wpList_store_mid rfl 26 (.tmp 4) (.tmp 29) rfl w.heap.size 0 (gvC nullG).toArray rfl rfl (U HV).there sizeV (all_oneCell_toArray (gvC_one _)) ?_
    show wpList _ _ _ _ _ (w0.setCells w.heap.size 0 (gvC nullG))
    refine lt 5 (errG 20) ?_
    simp only[put,sA,sB,sC]
    go_wp2_with fail
    refine bodyPost_ret (((U HV).set nullG).result2 rfl _ rfl) rfl ?_
    rw [U HPP]
    exact ⟨rfl,below_setCells0 (U HB) (Nat.le_refl _) _⟩
 · have e1:decide ((n:Int) < lo)=false:=decide_eq_false h1
   have e2:decide (hi < (n:Int))=true:=decide_eq_true (h.resolve_left h1)
   rw [e1]
   refine lt 20 (.bool false) ?_
   simp only[put,sA,sB,sC]
   have c7:=U HC7
   refine list_want (d:=21) (v:=.pointer (some ⟨be,oe,none⟩)) rfl (by kernel_rfl) (by kernel_rfl) ?_
   simp only[put,sA,sB,sC]
   refine list_want (d:=22) (v:=.pointer (some ⟨be,oe,none⟩)) rfl (by kernel_rfl) (by kernel_rfl) ?_
   simp only[put,sA,sB,sC]
   refine list_want (d:=23) (v:=.pointer (some ⟨be,oe+7,none⟩)) rfl (by kernel_rfl) (by kernel_rfl) ?_
   simp only[put,sA,sB,sC]
   refine list_want (d:=24) (v:=.slice av n k) rfl (by kernel_rfl) (by go_simp) ?_
   simp only[put,sA,sB,sC]
   clear c7
   refine list_want (d:=25) (v:=.int .i64 (n:Int)) rfl (by kernel_rfl) (by kernel_rfl) ?_
   simp only[put,sA,sB,sC]
   refine list_want (d:=26) (v:=.int .i64 hi) rfl (by kernel_rfl) (by kernel_rfl) ?_
   simp only[put,sA,sB,sC]
   refine list_want (d:=27) (v:=.bool (decide (hi < (n:Int)))) rfl (by kernel_rfl) (by go_simp) ?_
   simp only[put,sA,sB,sC]
   rw [e2]
   refine lt 28 (.bool true) ?_
   simp only[put,sA,sB,sC]
   as_aux_lemma=>
    go_upto_region 3 with fail
    refine wp_region_list ?_
    refine lt 29 (.agg (gvC nullG).toArray) ?_
    refine lt 30 (errG 20) ?_
    simp only[put,sA,sB,sC]
    refine wpList_store_mid rfl 26 (.tmp 4) (.tmp 29) rfl w.heap.size 0 (gvC nullG).toArray rfl rfl (U HV).there sizeV (all_oneCell_toArray (gvC_one _)) ?_
    show wpList _ _ _ _ _ (w0.setCells w.heap.size 0 (gvC nullG))
    refine lt 5 (errG 20) ?_
    simp only[put,sA,sB,sC]
    go_wp2_with fail
    refine bodyPost_ret (((U HV).set nullG).result2 rfl _ rfl) rfl ?_
    rw [U HPP]
    exact ⟨rfl,below_setCells0 (U HB) (Nat.le_refl _) _⟩
theorem eval_k1 (w:World) (pg be oe n k:Nat) (av:Option Addr) (lo hi:Int) (R:GV × Int) (c0:w.cell? ⟨be,oe,none⟩=some (.int .i64 1)) (c7:w.cell? ⟨be,oe+7,none⟩=some (.slice av n k)) (har:∀ W,Below w.heap.size w W→Calls Tryz.prog 60 #[.pointer (some ⟨be,oe,none⟩)] W fun e w'=>e=.returned (.tuple #[.int .i64 lo,.int .i64 hi])∧w'=W) (g:GV) (rg:w.rangeAt be (oe+2) (gvC g)) (h1:¬ (n:Int) < lo) (h2:¬ hi < (n:Int)) (hin:∀ W,Below w.heap.size w W→Calls Tryz.prog 61 #[.agg (gvC g).toArray] W (GeP W R)):Calls Tryz.prog 28 #[.pointer (some ⟨pg,0,none⟩),.pointer (some ⟨be,oe,none⟩)] w (GeP w R):=by
 have HIN:=V hin
 clear hin
 have HRG:=V rg
 clear rg
 have HC0:Hid (w.cell? ⟨be,oe,none⟩=some (.int .i64 1)):=c0
 have HBE:Hid (be < w.heap.size):=World.block_lt_of_cell? w _ c0
 have HC7:Hid (w.cell? ⟨be,oe+7,none⟩=some (.slice av n k)):=c7
 have HAR:=V har
 clear c0 c7 har
 obtain ⟨PP,hPP⟩:∃ PP,PP=GeP w R:=⟨_,rfl⟩
 have HPP:=V hPP
 rw [← hPP]
 clear hPP
 go_enter Tryz.func28,Tryz.ntmps28
 go_upto_region 1 with fail
 obtain ⟨w0,hw0⟩:∃ w0,w0=w.alloc (.cells (gvC nullG).toArray 26):=⟨_,rfl⟩
 have hb0:Below w.heap.size w w0:=by rw [hw0];exact alX (Below.refl _ _) _
 have HV:=V (show VV w0 w.heap.size nullG by rw [hw0];exact VV.new w nullG)
 have HB:=V hb0
 rw [show (gvC nullG).toArray=#[.int .i64 0,.int .i64 0,.string ⟨#[]⟩] from rfl] at hw0
 rw [← hw0]
 clear hw0 hb0
 have HC0:=V (((U HB).cell (p:=⟨be,oe,none⟩) (U HBE)).trans (U HC0))
 have HC7:=V (((U HB).cell (p:=⟨be,oe+7,none⟩) (U HBE)).trans (U HC7))
 refine wp_region_list ?_
 refine lt 9 (.pointer (some ⟨be,oe,none⟩)) ?_
 refine list_call rfl (some 10) rfl 60 #[.pointer (some ⟨be,oe,none⟩)] (by kernel_rfl) (U HAR w0 (U HB)) ?_
 rintro e w9 ⟨rfl,hw9⟩
 refine ⟨_,rfl,?_⟩
 simp only[put,sA,sB,sC]
 rw [hw9]
 clear hw9 w9
 refine lt 8 (.tuple #[.int .i64 lo,.int .i64 hi]) ?_
 refine lt 11 (.int .i64 lo) ?_
 refine lt 12 (.int .i64 hi) ?_
 refine lt 6 (.int .i64 lo) ?_
 refine lt 7 (.int .i64 hi) ?_
 simp only[put,sA,sB,sC]
 go_upto_region 2 with fail
 refine wp_region_list ?_
 have c7:=U HC7
 refine lt 13 (.pointer (some ⟨be,oe,none⟩)) ?_
 refine lt 14 (.pointer (some ⟨be,oe,none⟩)) ?_
 refine lt 15 (.pointer (some ⟨be,oe+7,none⟩)) ?_
 simp only[put,sA,sB,sC]
 refine list_to (d:=16) (v:=.slice av n k) rfl rfl (by go_simp) ?_
 simp only[put,sA,sB,sC]
 clear c7
 refine lt 17 (.int .i64 (n:Int)) ?_
 refine lt 18 (.int .i64 lo) ?_
 simp only[put,sA,sB,sC]
 refine list_to (d:=19) (v:=.bool (decide ((n:Int) < lo))) rfl rfl (by go_simp) ?_
 simp only[put,sA,sB,sC]
 have HRG:=V ((show w0.rangeAt be (oe+2) (gvC g) from fun j v hj=>((U HB).cell (p:=⟨be,oe+2+j,none⟩) (U HBE)).trans (U HRG j v hj)))
 have e1:decide ((n:Int) < lo)=false:=decide_eq_false h1
 have e2:decide (hi < (n:Int))=false:=decide_eq_false h2
 rw [e1]
 refine lt 20 (.bool false) ?_
 simp only[put,sA,sB,sC]
 have c7:=U HC7
 refine list_want (d:=21) (v:=.pointer (some ⟨be,oe,none⟩)) rfl (by kernel_rfl) (by kernel_rfl) ?_
 simp only[put,sA,sB,sC]
 refine list_want (d:=22) (v:=.pointer (some ⟨be,oe,none⟩)) rfl (by kernel_rfl) (by kernel_rfl) ?_
 simp only[put,sA,sB,sC]
 refine list_want (d:=23) (v:=.pointer (some ⟨be,oe+7,none⟩)) rfl (by kernel_rfl) (by kernel_rfl) ?_
 simp only[put,sA,sB,sC]
 refine list_want (d:=24) (v:=.slice av n k) rfl (by kernel_rfl) (by go_simp) ?_
 simp only[put,sA,sB,sC]
 clear c7
 refine list_want (d:=25) (v:=.int .i64 (n:Int)) rfl (by kernel_rfl) (by kernel_rfl) ?_
 simp only[put,sA,sB,sC]
 refine list_want (d:=26) (v:=.int .i64 hi) rfl (by kernel_rfl) (by kernel_rfl) ?_
 simp only[put,sA,sB,sC]
 refine list_want (d:=27) (v:=.bool (decide (hi < (n:Int)))) rfl (by kernel_rfl) (by go_simp) ?_
 simp only[put,sA,sB,sC]
 rw [e2]
 refine lt 28 (.bool false) ?_
 simp only[put,sA,sB,sC]
 go_upto_region 4 with fail
 refine wp_region_list ?_
 have c0:=U HC0
 refine lt 31 (.pointer (some ⟨be,oe,none⟩)) ?_
 refine lt 32 (.pointer (some ⟨be,oe,none⟩)) ?_
 refine lt 33 (.pointer (some ⟨be,oe,none⟩)) ?_
 simp only[put,sA,sB,sC]
 refine list_to (d:=34) (v:=.int .i64 1) rfl rfl (by go_simp) ?_
 simp only[put,sA,sB,sC]
 clear c0
 as_aux_lemma=>
  go_upto_region 6 with fail
  refine wp_region_list ?_
  refine lt 37 (.pointer (some ⟨be,oe,none⟩)) ?_
  refine lt 38 (.pointer (some ⟨be,oe,none⟩)) ?_
  refine lt 39 (.pointer (some ⟨be,oe+2,none⟩)) ?_
  simp only[put,sA,sB,sC]
  refine wpList_load_mid rfl 26 (.tmp 39) rfl be (oe+2) rfl (gvC g) _ (U HRG) Tryz.underlying26 rfl sizeV ?_
  refine list_call rfl (some 41) rfl 61 #[.agg (gvC g).toArray] (by kernel_rfl) (U HIN w0 (U HB)) ?_
  rintro e w5 ⟨rfl,hb⟩
  refine ⟨_,rfl,?_⟩
  simp only[put,sA,sB,sC]
  have HB:=V (trX (U HB) hb)
  have HV:=V ((U HV).below hb)
  clear hb
  refine lt 42 (.agg (gvC R.1).toArray) ?_
  refine lt 43 (errG R.2) ?_
  simp only[put,sA,sB,sC]
  refine wpList_store_mid rfl 26 (.tmp 4) (.tmp 42) rfl w.heap.size 0 (gvC R.1).toArray rfl rfl (U HV).there sizeV (all_oneCell_toArray (gvC_one _)) ?_
  show wpList _ _ _ _ _ (w5.setCells w.heap.size 0 (gvC R.1))
  refine lt 5 (errG R.2) ?_
  simp only[put,sA,sB,sC]
  go_wp2_with fail
  refine bodyPost_ret (((U HV).set R.1).result2 rfl _ rfl) rfl ?_
  rw [U HPP]
  exact ⟨rfl,below_setCells0 (U HB) (Nat.le_refl _) _⟩
theorem eval_k3 (w:World) (pg be oe n k:Nat) (av:Option Addr) (lo hi:Int) (R:GV × Int) (c0:w.cell? ⟨be,oe,none⟩=some (.int .i64 3)) (c7:w.cell? ⟨be,oe+7,none⟩=some (.slice av n k)) (har:∀ W,Below w.heap.size w W→Calls Tryz.prog 60 #[.pointer (some ⟨be,oe,none⟩)] W fun e w'=>e=.returned (.tuple #[.int .i64 lo,.int .i64 hi])∧w'=W) (h1:¬ (n:Int) < lo) (h2:¬ hi < (n:Int)) (hin:∀ W,Below w.heap.size w W→Calls Tryz.prog 63 #[.pointer (some ⟨pg,0,none⟩),.pointer (some ⟨be,oe,none⟩)] W (GeP W R)):Calls Tryz.prog 28 #[.pointer (some ⟨pg,0,none⟩),.pointer (some ⟨be,oe,none⟩)] w (GeP w R):=by
 have HIN:=V hin
 clear hin
 have HC0:Hid (w.cell? ⟨be,oe,none⟩=some (.int .i64 3)):=c0
 have HBE:Hid (be < w.heap.size):=World.block_lt_of_cell? w _ c0
 have HC7:Hid (w.cell? ⟨be,oe+7,none⟩=some (.slice av n k)):=c7
 have HAR:=V har
 clear c0 c7 har
 obtain ⟨PP,hPP⟩:∃ PP,PP=GeP w R:=⟨_,rfl⟩
 have HPP:=V hPP
 rw [← hPP]
 clear hPP
 go_enter Tryz.func28,Tryz.ntmps28
 go_upto_region 1 with fail
 obtain ⟨w0,hw0⟩:∃ w0,w0=w.alloc (.cells (gvC nullG).toArray 26):=⟨_,rfl⟩
 have hb0:Below w.heap.size w w0:=by rw [hw0];exact alX (Below.refl _ _) _
 have HV:=V (show VV w0 w.heap.size nullG by rw [hw0];exact VV.new w nullG)
 have HB:=V hb0
 rw [show (gvC nullG).toArray=#[.int .i64 0,.int .i64 0,.string ⟨#[]⟩] from rfl] at hw0
 rw [← hw0]
 clear hw0 hb0
 have HC0:=V (((U HB).cell (p:=⟨be,oe,none⟩) (U HBE)).trans (U HC0))
 have HC7:=V (((U HB).cell (p:=⟨be,oe+7,none⟩) (U HBE)).trans (U HC7))
 refine wp_region_list ?_
 refine lt 9 (.pointer (some ⟨be,oe,none⟩)) ?_
 refine list_call rfl (some 10) rfl 60 #[.pointer (some ⟨be,oe,none⟩)] (by kernel_rfl) (U HAR w0 (U HB)) ?_
 rintro e w9 ⟨rfl,hw9⟩
 refine ⟨_,rfl,?_⟩
 simp only[put,sA,sB,sC]
 rw [hw9]
 clear hw9 w9
 refine lt 8 (.tuple #[.int .i64 lo,.int .i64 hi]) ?_
 refine lt 11 (.int .i64 lo) ?_
 refine lt 12 (.int .i64 hi) ?_
 refine lt 6 (.int .i64 lo) ?_
 refine lt 7 (.int .i64 hi) ?_
 simp only[put,sA,sB,sC]
 go_upto_region 2 with fail
 refine wp_region_list ?_
 have c7:=U HC7
 refine lt 13 (.pointer (some ⟨be,oe,none⟩)) ?_
 refine lt 14 (.pointer (some ⟨be,oe,none⟩)) ?_
 refine lt 15 (.pointer (some ⟨be,oe+7,none⟩)) ?_
 simp only[put,sA,sB,sC]
 refine list_to (d:=16) (v:=.slice av n k) rfl rfl (by go_simp) ?_
 simp only[put,sA,sB,sC]
 clear c7
 refine lt 17 (.int .i64 (n:Int)) ?_
 refine lt 18 (.int .i64 lo) ?_
 simp only[put,sA,sB,sC]
 refine list_to (d:=19) (v:=.bool (decide ((n:Int) < lo))) rfl rfl (by go_simp) ?_
 simp only[put,sA,sB,sC]
 have e1:decide ((n:Int) < lo)=false:=decide_eq_false h1
 have e2:decide (hi < (n:Int))=false:=decide_eq_false h2
 rw [e1]
 refine lt 20 (.bool false) ?_
 simp only[put,sA,sB,sC]
 have c7:=U HC7
 refine list_want (d:=21) (v:=.pointer (some ⟨be,oe,none⟩)) rfl (by kernel_rfl) (by kernel_rfl) ?_
 simp only[put,sA,sB,sC]
 refine list_want (d:=22) (v:=.pointer (some ⟨be,oe,none⟩)) rfl (by kernel_rfl) (by kernel_rfl) ?_
 simp only[put,sA,sB,sC]
 refine list_want (d:=23) (v:=.pointer (some ⟨be,oe+7,none⟩)) rfl (by kernel_rfl) (by kernel_rfl) ?_
 simp only[put,sA,sB,sC]
 refine list_want (d:=24) (v:=.slice av n k) rfl (by kernel_rfl) (by go_simp) ?_
 simp only[put,sA,sB,sC]
 clear c7
 refine list_want (d:=25) (v:=.int .i64 (n:Int)) rfl (by kernel_rfl) (by kernel_rfl) ?_
 simp only[put,sA,sB,sC]
 refine list_want (d:=26) (v:=.int .i64 hi) rfl (by kernel_rfl) (by kernel_rfl) ?_
 simp only[put,sA,sB,sC]
 refine list_want (d:=27) (v:=.bool (decide (hi < (n:Int)))) rfl (by kernel_rfl) (by go_simp) ?_
 simp only[put,sA,sB,sC]
 rw [e2]
 refine lt 28 (.bool false) ?_
 simp only[put,sA,sB,sC]
 go_upto_region 4 with fail
 refine wp_region_list ?_
 have c0:=U HC0
 refine lt 31 (.pointer (some ⟨be,oe,none⟩)) ?_
 refine lt 32 (.pointer (some ⟨be,oe,none⟩)) ?_
 refine lt 33 (.pointer (some ⟨be,oe,none⟩)) ?_
 simp only[put,sA,sB,sC]
 refine list_to (d:=34) (v:=.int .i64 3) rfl rfl (by go_simp) ?_
 simp only[put,sA,sB,sC]
 clear c0
 as_aux_lemma=>
  go_upto_region 10 with fail
  refine wp_region_list ?_
  refine lt 56 (.pointer (some ⟨pg,0,none⟩)) ?_
  refine lt 57 (.pointer (some ⟨be,oe,none⟩)) ?_
  refine list_call rfl (some 58) rfl 63 #[.pointer (some ⟨pg,0,none⟩),.pointer (some ⟨be,oe,none⟩)] (by kernel_rfl) (U HIN w0 (U HB)) ?_
  rintro e w5 ⟨rfl,hb⟩
  refine ⟨_,rfl,?_⟩
  simp only[put,sA,sB,sC]
  have HB:=V (trX (U HB) hb)
  have HV:=V ((U HV).below hb)
  clear hb
  refine lt 59 (.agg (gvC R.1).toArray) ?_
  refine lt 60 (errG R.2) ?_
  simp only[put,sA,sB,sC]
  refine wpList_store_mid rfl 26 (.tmp 4) (.tmp 59) rfl w.heap.size 0 (gvC R.1).toArray rfl rfl (U HV).there sizeV (all_oneCell_toArray (gvC_one _)) ?_
  show wpList _ _ _ _ _ (w5.setCells w.heap.size 0 (gvC R.1))
  refine lt 5 (errG R.2) ?_
  simp only[put,sA,sB,sC]
  go_wp2_with fail
  refine bodyPost_ret (((U HV).set R.1).result2 rfl _ rfl) rfl ?_
  rw [U HPP]
  exact ⟨rfl,below_setCells0 (U HB) (Nat.le_refl _) _⟩
theorem eval_k4 (w:World) (pg be oe n k:Nat) (av:Option Addr) (lo hi:Int) (R:GV × Int) (c0:w.cell? ⟨be,oe,none⟩=some (.int .i64 4)) (c7:w.cell? ⟨be,oe+7,none⟩=some (.slice av n k)) (har:∀ W,Below w.heap.size w W→Calls Tryz.prog 60 #[.pointer (some ⟨be,oe,none⟩)] W fun e w'=>e=.returned (.tuple #[.int .i64 lo,.int .i64 hi])∧w'=W) (h1:¬ (n:Int) < lo) (h2:¬ hi < (n:Int)) (hin:∀ W,Below w.heap.size w W→Calls Tryz.prog 64 #[.pointer (some ⟨pg,0,none⟩),.pointer (some ⟨be,oe,none⟩)] W (GeP W R)):Calls Tryz.prog 28 #[.pointer (some ⟨pg,0,none⟩),.pointer (some ⟨be,oe,none⟩)] w (GeP w R):=by
 have HIN:=V hin
 clear hin
 have HC0:Hid (w.cell? ⟨be,oe,none⟩=some (.int .i64 4)):=c0
 have HBE:Hid (be < w.heap.size):=World.block_lt_of_cell? w _ c0
 have HC7:Hid (w.cell? ⟨be,oe+7,none⟩=some (.slice av n k)):=c7
 have HAR:=V har
 clear c0 c7 har
 obtain ⟨PP,hPP⟩:∃ PP,PP=GeP w R:=⟨_,rfl⟩
 have HPP:=V hPP
 rw [← hPP]
 clear hPP
 go_enter Tryz.func28,Tryz.ntmps28
 go_upto_region 1 with fail
 obtain ⟨w0,hw0⟩:∃ w0,w0=w.alloc (.cells (gvC nullG).toArray 26):=⟨_,rfl⟩
 have hb0:Below w.heap.size w w0:=by rw [hw0];exact alX (Below.refl _ _) _
 have HV:=V (show VV w0 w.heap.size nullG by rw [hw0];exact VV.new w nullG)
 have HB:=V hb0
 rw [show (gvC nullG).toArray=#[.int .i64 0,.int .i64 0,.string ⟨#[]⟩] from rfl] at hw0
 rw [← hw0]
 clear hw0 hb0
 have HC0:=V (((U HB).cell (p:=⟨be,oe,none⟩) (U HBE)).trans (U HC0))
 have HC7:=V (((U HB).cell (p:=⟨be,oe+7,none⟩) (U HBE)).trans (U HC7))
 refine wp_region_list ?_
 refine lt 9 (.pointer (some ⟨be,oe,none⟩)) ?_
 refine list_call rfl (some 10) rfl 60 #[.pointer (some ⟨be,oe,none⟩)] (by kernel_rfl) (U HAR w0 (U HB)) ?_
 rintro e w9 ⟨rfl,hw9⟩
 refine ⟨_,rfl,?_⟩
 simp only[put,sA,sB,sC]
 rw [hw9]
 clear hw9 w9
 refine lt 8 (.tuple #[.int .i64 lo,.int .i64 hi]) ?_
 refine lt 11 (.int .i64 lo) ?_
 refine lt 12 (.int .i64 hi) ?_
 refine lt 6 (.int .i64 lo) ?_
 refine lt 7 (.int .i64 hi) ?_
 simp only[put,sA,sB,sC]
 go_upto_region 2 with fail
 refine wp_region_list ?_
 have c7:=U HC7
 refine lt 13 (.pointer (some ⟨be,oe,none⟩)) ?_
 refine lt 14 (.pointer (some ⟨be,oe,none⟩)) ?_
 refine lt 15 (.pointer (some ⟨be,oe+7,none⟩)) ?_
 simp only[put,sA,sB,sC]
 refine list_to (d:=16) (v:=.slice av n k) rfl rfl (by go_simp) ?_
 simp only[put,sA,sB,sC]
 clear c7
 refine lt 17 (.int .i64 (n:Int)) ?_
 refine lt 18 (.int .i64 lo) ?_
 simp only[put,sA,sB,sC]
 refine list_to (d:=19) (v:=.bool (decide ((n:Int) < lo))) rfl rfl (by go_simp) ?_
 simp only[put,sA,sB,sC]
 have e1:decide ((n:Int) < lo)=false:=decide_eq_false h1
 have e2:decide (hi < (n:Int))=false:=decide_eq_false h2
 rw [e1]
 refine lt 20 (.bool false) ?_
 simp only[put,sA,sB,sC]
 have c7:=U HC7
 refine list_want (d:=21) (v:=.pointer (some ⟨be,oe,none⟩)) rfl (by kernel_rfl) (by kernel_rfl) ?_
 simp only[put,sA,sB,sC]
 refine list_want (d:=22) (v:=.pointer (some ⟨be,oe,none⟩)) rfl (by kernel_rfl) (by kernel_rfl) ?_
 simp only[put,sA,sB,sC]
 refine list_want (d:=23) (v:=.pointer (some ⟨be,oe+7,none⟩)) rfl (by kernel_rfl) (by kernel_rfl) ?_
 simp only[put,sA,sB,sC]
 refine list_want (d:=24) (v:=.slice av n k) rfl (by kernel_rfl) (by go_simp) ?_
 simp only[put,sA,sB,sC]
 clear c7
 refine list_want (d:=25) (v:=.int .i64 (n:Int)) rfl (by kernel_rfl) (by kernel_rfl) ?_
 simp only[put,sA,sB,sC]
 refine list_want (d:=26) (v:=.int .i64 hi) rfl (by kernel_rfl) (by kernel_rfl) ?_
 simp only[put,sA,sB,sC]
 refine list_want (d:=27) (v:=.bool (decide (hi < (n:Int)))) rfl (by kernel_rfl) (by go_simp) ?_
 simp only[put,sA,sB,sC]
 rw [e2]
 refine lt 28 (.bool false) ?_
 simp only[put,sA,sB,sC]
 go_upto_region 4 with fail
 refine wp_region_list ?_
 have c0:=U HC0
 refine lt 31 (.pointer (some ⟨be,oe,none⟩)) ?_
 refine lt 32 (.pointer (some ⟨be,oe,none⟩)) ?_
 refine lt 33 (.pointer (some ⟨be,oe,none⟩)) ?_
 simp only[put,sA,sB,sC]
 refine list_to (d:=34) (v:=.int .i64 4) rfl rfl (by go_simp) ?_
 simp only[put,sA,sB,sC]
 clear c0
 as_aux_lemma=>
  go_upto_region 12 with fail
  refine wp_region_list ?_
  refine lt 63 (.pointer (some ⟨pg,0,none⟩)) ?_
  refine lt 64 (.pointer (some ⟨be,oe,none⟩)) ?_
  refine list_call rfl (some 65) rfl 64 #[.pointer (some ⟨pg,0,none⟩),.pointer (some ⟨be,oe,none⟩)] (by kernel_rfl) (U HIN w0 (U HB)) ?_
  rintro e w5 ⟨rfl,hb⟩
  refine ⟨_,rfl,?_⟩
  simp only[put,sA,sB,sC]
  have HB:=V (trX (U HB) hb)
  have HV:=V ((U HV).below hb)
  clear hb
  refine lt 66 (.agg (gvC R.1).toArray) ?_
  refine lt 67 (errG R.2) ?_
  simp only[put,sA,sB,sC]
  refine wpList_store_mid rfl 26 (.tmp 4) (.tmp 66) rfl w.heap.size 0 (gvC R.1).toArray rfl rfl (U HV).there sizeV (all_oneCell_toArray (gvC_one _)) ?_
  show wpList _ _ _ _ _ (w5.setCells w.heap.size 0 (gvC R.1))
  refine lt 5 (errG R.2) ?_
  simp only[put,sA,sB,sC]
  go_wp2_with fail
  refine bodyPost_ret (((U HV).set R.1).result2 rfl _ rfl) rfl ?_
  rw [U HPP]
  exact ⟨rfl,below_setCells0 (U HB) (Nat.le_refl _) _⟩
theorem eval_k5 (w:World) (pg be oe n k:Nat) (av:Option Addr) (lo hi:Int) (R:GV × Int) (c0:w.cell? ⟨be,oe,none⟩=some (.int .i64 5)) (c7:w.cell? ⟨be,oe+7,none⟩=some (.slice av n k)) (har:∀ W,Below w.heap.size w W→Calls Tryz.prog 60 #[.pointer (some ⟨be,oe,none⟩)] W fun e w'=>e=.returned (.tuple #[.int .i64 lo,.int .i64 hi])∧w'=W) (h1:¬ (n:Int) < lo) (h2:¬ hi < (n:Int)) (hin:∀ W,Below w.heap.size w W→Calls Tryz.prog 65 #[.pointer (some ⟨pg,0,none⟩),.slice av n k] W (GeP W R)):Calls Tryz.prog 28 #[.pointer (some ⟨pg,0,none⟩),.pointer (some ⟨be,oe,none⟩)] w (GeP w R):=by
 have HIN:=V hin
 clear hin
 have HC0:Hid (w.cell? ⟨be,oe,none⟩=some (.int .i64 5)):=c0
 have HBE:Hid (be < w.heap.size):=World.block_lt_of_cell? w _ c0
 have HC7:Hid (w.cell? ⟨be,oe+7,none⟩=some (.slice av n k)):=c7
 have HAR:=V har
 clear c0 c7 har
 obtain ⟨PP,hPP⟩:∃ PP,PP=GeP w R:=⟨_,rfl⟩
 have HPP:=V hPP
 rw [← hPP]
 clear hPP
 go_enter Tryz.func28,Tryz.ntmps28
 go_upto_region 1 with fail
 obtain ⟨w0,hw0⟩:∃ w0,w0=w.alloc (.cells (gvC nullG).toArray 26):=⟨_,rfl⟩
 have hb0:Below w.heap.size w w0:=by rw [hw0];exact alX (Below.refl _ _) _
 have HV:=V (show VV w0 w.heap.size nullG by rw [hw0];exact VV.new w nullG)
 have HB:=V hb0
 rw [show (gvC nullG).toArray=#[.int .i64 0,.int .i64 0,.string ⟨#[]⟩] from rfl] at hw0
 rw [← hw0]
 clear hw0 hb0
 have HC0:=V (((U HB).cell (p:=⟨be,oe,none⟩) (U HBE)).trans (U HC0))
 have HC7:=V (((U HB).cell (p:=⟨be,oe+7,none⟩) (U HBE)).trans (U HC7))
 refine wp_region_list ?_
 refine lt 9 (.pointer (some ⟨be,oe,none⟩)) ?_
 refine list_call rfl (some 10) rfl 60 #[.pointer (some ⟨be,oe,none⟩)] (by kernel_rfl) (U HAR w0 (U HB)) ?_
 rintro e w9 ⟨rfl,hw9⟩
 refine ⟨_,rfl,?_⟩
 simp only[put,sA,sB,sC]
 rw [hw9]
 clear hw9 w9
 refine lt 8 (.tuple #[.int .i64 lo,.int .i64 hi]) ?_
 refine lt 11 (.int .i64 lo) ?_
 refine lt 12 (.int .i64 hi) ?_
 refine lt 6 (.int .i64 lo) ?_
 refine lt 7 (.int .i64 hi) ?_
 simp only[put,sA,sB,sC]
 go_upto_region 2 with fail
 refine wp_region_list ?_
 have c7:=U HC7
 refine lt 13 (.pointer (some ⟨be,oe,none⟩)) ?_
 refine lt 14 (.pointer (some ⟨be,oe,none⟩)) ?_
 refine lt 15 (.pointer (some ⟨be,oe+7,none⟩)) ?_
 simp only[put,sA,sB,sC]
 refine list_to (d:=16) (v:=.slice av n k) rfl rfl (by go_simp) ?_
 simp only[put,sA,sB,sC]
 clear c7
 refine lt 17 (.int .i64 (n:Int)) ?_
 refine lt 18 (.int .i64 lo) ?_
 simp only[put,sA,sB,sC]
 refine list_to (d:=19) (v:=.bool (decide ((n:Int) < lo))) rfl rfl (by go_simp) ?_
 simp only[put,sA,sB,sC]
 have e1:decide ((n:Int) < lo)=false:=decide_eq_false h1
 have e2:decide (hi < (n:Int))=false:=decide_eq_false h2
 rw [e1]
 refine lt 20 (.bool false) ?_
 simp only[put,sA,sB,sC]
 have c7:=U HC7
 refine list_want (d:=21) (v:=.pointer (some ⟨be,oe,none⟩)) rfl (by kernel_rfl) (by kernel_rfl) ?_
 simp only[put,sA,sB,sC]
 refine list_want (d:=22) (v:=.pointer (some ⟨be,oe,none⟩)) rfl (by kernel_rfl) (by kernel_rfl) ?_
 simp only[put,sA,sB,sC]
 refine list_want (d:=23) (v:=.pointer (some ⟨be,oe+7,none⟩)) rfl (by kernel_rfl) (by kernel_rfl) ?_
 simp only[put,sA,sB,sC]
 refine list_want (d:=24) (v:=.slice av n k) rfl (by kernel_rfl) (by go_simp) ?_
 simp only[put,sA,sB,sC]
 clear c7
 refine list_want (d:=25) (v:=.int .i64 (n:Int)) rfl (by kernel_rfl) (by kernel_rfl) ?_
 simp only[put,sA,sB,sC]
 refine list_want (d:=26) (v:=.int .i64 hi) rfl (by kernel_rfl) (by kernel_rfl) ?_
 simp only[put,sA,sB,sC]
 refine list_want (d:=27) (v:=.bool (decide (hi < (n:Int)))) rfl (by kernel_rfl) (by go_simp) ?_
 simp only[put,sA,sB,sC]
 rw [e2]
 refine lt 28 (.bool false) ?_
 simp only[put,sA,sB,sC]
 go_upto_region 4 with fail
 refine wp_region_list ?_
 have c0:=U HC0
 refine lt 31 (.pointer (some ⟨be,oe,none⟩)) ?_
 refine lt 32 (.pointer (some ⟨be,oe,none⟩)) ?_
 refine lt 33 (.pointer (some ⟨be,oe,none⟩)) ?_
 simp only[put,sA,sB,sC]
 refine list_to (d:=34) (v:=.int .i64 5) rfl rfl (by go_simp) ?_
 simp only[put,sA,sB,sC]
 clear c0
 as_aux_lemma=>
  go_upto_region 14 with fail
  refine wp_region_list ?_
  refine lt 70 (.pointer (some ⟨pg,0,none⟩)) ?_
  refine lt 71 (.pointer (some ⟨be,oe,none⟩)) ?_
  refine lt 72 (.pointer (some ⟨be,oe,none⟩)) ?_
  refine lt 73 (.pointer (some ⟨be,oe+7,none⟩)) ?_
  simp only[put,sA,sB,sC]
  have c7:=U HC7
  refine list_to (d:=74) (v:=.slice av n k) rfl rfl (by go_simp) ?_
  simp only[put,sA,sB,sC]
  clear c7
  refine list_call rfl (some 75) rfl 65 #[.pointer (some ⟨pg,0,none⟩),.slice av n k] (by kernel_rfl) (U HIN w0 (U HB)) ?_
  rintro e w5 ⟨rfl,hb⟩
  refine ⟨_,rfl,?_⟩
  simp only[put,sA,sB,sC]
  have HB:=V (trX (U HB) hb)
  have HV:=V ((U HV).below hb)
  clear hb
  refine lt 76 (.agg (gvC R.1).toArray) ?_
  refine lt 77 (errG R.2) ?_
  simp only[put,sA,sB,sC]
  refine wpList_store_mid rfl 26 (.tmp 4) (.tmp 76) rfl w.heap.size 0 (gvC R.1).toArray rfl rfl (U HV).there sizeV (all_oneCell_toArray (gvC_one _)) ?_
  show wpList _ _ _ _ _ (w5.setCells w.heap.size 0 (gvC R.1))
  refine lt 5 (errG R.2) ?_
  simp only[put,sA,sB,sC]
  go_wp2_with fail
  refine bodyPost_ret (((U HV).set R.1).result2 rfl _ rfl) rfl ?_
  rw [U HPP]
  exact ⟨rfl,below_setCells0 (U HB) (Nat.le_refl _) _⟩
end Go.Proofs.YtpnonhjmpnbmcaaGreatDoor
