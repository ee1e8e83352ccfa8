/-
  NARROWER THAN 'FOR EVERY INPUT', by the rows' own cells (each row's printed sentence says how): ExprTells: laid · ExprGroups: laid · ExprSums: laid.
  DERIVED. THE GIVEN ROWS OF THIS SEAT. 3 by the template 'for every input the law returns true; each argument reads behind the call as it read before'; 0 by the template 'total and deterministic' (their statements: YtpnonhjmpnbmcaaGreatDoorTotals.lean).
  GIVEN WITH THE SEED: the statements are not yours to turn. If you find one false, say at which input.
  Laid BY PROGRAM, IN A SANDBOX (cutbox-rows.mjs): the forced cells as the released guide's own fill.sh prints them over the translation 87673d0c23ecbbf6… (all of the seat's roots in one cut). By AI agents, Wed Nov 11 2026. No macro, syntax, notation, axiom, sorry.
-/
import Derived.Test.YtpnonhjmpnbmcaaGreatDoorChecked
import GoSem.Claim
import GoSem.ClaimJoined
import GoSem.ClaimMapViews
import Derived.JoinedTies
import Derived.KernelRfl
namespace Go.Proofs.YtpnonhjmpnbmcaaGreatDoor
/- THE CELL 'sum', in the pinned program and in every row, IS THE sha256 OF THE DUMP (.gsa) THAT YtpnonhjmpnbmcaaGreatDoorProg.lean LOADS. Nothing in Lean hashes anything: it is a label: what it is worth is what the hold of that sum in a sandbox is worth. -/
noncomputable def Tryz.pinned : Pinned := { name := "ytpnonhjmpnbmcaagreatdoor", sum := "87673d0c23ecbbf610f81eabd2513202eb81e76fa1f847bd6acb35755b9afaf1", checked := Tryz.checked }
namespace Rows
def none {H : Type} : Left H := { results := [], args := [] }

/- WHAT THE LISTED PACKAGE-LEVEL VARIABLES READ AS WHEN THE CALL BEGINS. Each datum BY PROGRAM (the guide's laid-datum.mjs) off the statement by which the dump's own 'gosem.cut.vars' lays the variable. In a bare row this is a premise. The card (YtpnonhjmpnbmcaaGreatDoorCards.lean) ties it to the program's text. -/
def laid_errors_errorType {H : Type} : DataW H := .iface "internal/reflectlite.rtype" (.agg [.ptr (.lit (.string [101, 114, 114, 111, 114]))])

/-- 'consistorylaw14.ExprTells': WHATEVER THE INPUT: true; the input reads as it did. -/
def exprTellsSpec : ChangeSpec := { name := "exprTells", fn := fun _ => fun
  | [d1, d2] => { results := [.lit (.bool true)], args := [d1, d2] }
  | _ => none }
def exprTellsRow : OpenClaim := { program := "ytpnonhjmpnbmcaagreatdoor", sum := "87673d0c23ecbbf610f81eabd2513202eb81e76fa1f847bd6acb35755b9afaf1", func := "consistory/consistorylaw14.ExprTells", spec := "exprTells", inPlace := ["math/bits.Add64", "internal/bytealg.IndexByteString", "internal/reflectlite.TypeOf", "internal/bytealg.abigen_runtime_cmpstring", "internal/reflectlite.ValueOf", "(internal/reflectlite.Value).Type", "(internal/reflectlite.Value).IsNil", "(internal/reflectlite.Value).Elem", "(internal/reflectlite.Value).Set"], unfollowed := true, recurses := true, named := ["errors.errorType"], apart := false, laid := [("errors.errorType", laid_errors_errorType)] }
def ExprTellsSaid : Prop := exprTellsRow.holds Tryz.pinned (OpenSpec.ofChange exprTellsSpec)

/-- ITS FALSE NEIGHBOUR: 'it returns false'. Refute it at one input. -/
def exprTellsWrong : ChangeSpec := { name := "exprTells", fn := fun _ => fun
  | [d1, d2] => { results := [.lit (.bool false)], args := [d1, d2] }
  | _ => none }
def ExprTellsWrongFalsely : Prop := exprTellsRow.holds Tryz.pinned (OpenSpec.ofChange exprTellsWrong)

/-- 'consistorylaw14.ExprGroups': WHATEVER THE INPUT: true; the input reads as it did. -/
def exprGroupsSpec : ChangeSpec := { name := "exprGroups", fn := fun _ => fun
  | [d1, d2] => { results := [.lit (.bool true)], args := [d1, d2] }
  | _ => none }
def exprGroupsRow : OpenClaim := { program := "ytpnonhjmpnbmcaagreatdoor", sum := "87673d0c23ecbbf610f81eabd2513202eb81e76fa1f847bd6acb35755b9afaf1", func := "consistory/consistorylaw14.ExprGroups", spec := "exprGroups", inPlace := ["math/bits.Add64", "internal/bytealg.IndexByteString", "internal/reflectlite.TypeOf", "internal/bytealg.abigen_runtime_cmpstring", "internal/reflectlite.ValueOf", "(internal/reflectlite.Value).Type", "(internal/reflectlite.Value).IsNil", "(internal/reflectlite.Value).Elem", "(internal/reflectlite.Value).Set"], unfollowed := true, recurses := true, named := ["errors.errorType"], apart := false, laid := [("errors.errorType", laid_errors_errorType)] }
def ExprGroupsSaid : Prop := exprGroupsRow.holds Tryz.pinned (OpenSpec.ofChange exprGroupsSpec)

/-- ITS FALSE NEIGHBOUR: 'it returns false'. Refute it at one input. -/
def exprGroupsWrong : ChangeSpec := { name := "exprGroups", fn := fun _ => fun
  | [d1, d2] => { results := [.lit (.bool false)], args := [d1, d2] }
  | _ => none }
def ExprGroupsWrongFalsely : Prop := exprGroupsRow.holds Tryz.pinned (OpenSpec.ofChange exprGroupsWrong)

/-- 'consistorylaw14.ExprSums': WHATEVER THE INPUT: true; the input reads as it did. -/
def exprSumsSpec : ChangeSpec := { name := "exprSums", fn := fun _ => fun
  | [d1, d2] => { results := [.lit (.bool true)], args := [d1, d2] }
  | _ => none }
def exprSumsRow : OpenClaim := { program := "ytpnonhjmpnbmcaagreatdoor", sum := "87673d0c23ecbbf610f81eabd2513202eb81e76fa1f847bd6acb35755b9afaf1", func := "consistory/consistorylaw14.ExprSums", spec := "exprSums", inPlace := ["math/bits.Add64", "internal/bytealg.IndexByteString", "internal/reflectlite.TypeOf", "internal/bytealg.abigen_runtime_cmpstring", "internal/reflectlite.ValueOf", "(internal/reflectlite.Value).Type", "(internal/reflectlite.Value).IsNil", "(internal/reflectlite.Value).Elem", "(internal/reflectlite.Value).Set"], unfollowed := true, recurses := true, named := ["errors.errorType"], apart := false, laid := [("errors.errorType", laid_errors_errorType)] }
def ExprSumsSaid : Prop := exprSumsRow.holds Tryz.pinned (OpenSpec.ofChange exprSumsSpec)

/-- ITS FALSE NEIGHBOUR: 'it returns false'. Refute it at one input. -/
def exprSumsWrong : ChangeSpec := { name := "exprSums", fn := fun _ => fun
  | [d1, d2] => { results := [.lit (.bool false)], args := [d1, d2] }
  | _ => none }
def ExprSumsWrongFalsely : Prop := exprSumsRow.holds Tryz.pinned (OpenSpec.ofChange exprSumsWrong)

/- THE SECOND FORM. 'bulk': how many values and letters a reading holds, each counted each time it is reached (what is shared counts as often as it is met; a slice's spare places count too). A statement '..UptoSaid' is the law's where the arguments, and the package variables that the reading takes, are together of bulk at most 1048576: NARROWER than '..Said'. Prove '..Said' where nothing that the law and all that it calls make is longer than what came in: it says more and counts as full. Else prove '..UptoSaid'. A law counts once. -/
mutual
def uptoBulk {H : Type} : DataW H → Nat
  | .lit (.string bytes) => bytes.length + 1
  | .lit _ => 1
  | .nil => 1
  | .ptr d => uptoBulk d + 1
  | .slice elems spare => uptoBulkAll elems + uptoBulkAll spare + 1
  | .agg parts => uptoBulkAll parts + 1
  | .iface _ d => uptoBulk d + 1
  | .map entries => uptoBulkEntries entries + 1
  | .held _ => 1
def uptoBulkAll {H : Type} : List (DataW H) → Nat
  | [] => 0
  | d :: r => uptoBulk d + uptoBulkAll r
def uptoBulkEntries {H : Type} : List (Lit × DataW H) → Nat
  | [] => 0
  | x :: r => uptoBulkEntry x + uptoBulkEntries r
def uptoBulkEntry {H : Type} : Lit × DataW H → Nat
  | (.string bytes, d) => bytes.length + uptoBulk d + 1
  | (_, d) => uptoBulk d + 1
 end
def uptoSmall : (H : Type) → List (DataW H) → Bool := fun _ ds => decide (uptoBulkAll ds ≤ 1048576)
def OpenSpec.upto (s : _root_.Go.ChangeSpec) : _root_.Go.OpenSpec := { _root_.Go.OpenSpec.ofChange s with cond := some uptoSmall }

/-- 'consistorylaw14.ExprTells', WHERE WHAT IT READS IS OF BULK AT MOST 1048576: true; the input reads as it did. -/
def exprTellsUptoRow : OpenClaim := { program := "ytpnonhjmpnbmcaagreatdoor", sum := "87673d0c23ecbbf610f81eabd2513202eb81e76fa1f847bd6acb35755b9afaf1", func := "consistory/consistorylaw14.ExprTells", spec := "exprTells", inPlace := ["math/bits.Add64", "internal/bytealg.IndexByteString", "internal/reflectlite.TypeOf", "internal/bytealg.abigen_runtime_cmpstring", "internal/reflectlite.ValueOf", "(internal/reflectlite.Value).Type", "(internal/reflectlite.Value).IsNil", "(internal/reflectlite.Value).Elem", "(internal/reflectlite.Value).Set"], unfollowed := true, recurses := true, named := ["errors.errorType"], apart := false, laid := [("errors.errorType", laid_errors_errorType)], narrowed := true }
def ExprTellsUptoSaid : Prop := exprTellsUptoRow.holds Tryz.pinned (OpenSpec.upto exprTellsSpec)

/-- 'consistorylaw14.ExprGroups', WHERE WHAT IT READS IS OF BULK AT MOST 1048576: true; the input reads as it did. -/
def exprGroupsUptoRow : OpenClaim := { program := "ytpnonhjmpnbmcaagreatdoor", sum := "87673d0c23ecbbf610f81eabd2513202eb81e76fa1f847bd6acb35755b9afaf1", func := "consistory/consistorylaw14.ExprGroups", spec := "exprGroups", inPlace := ["math/bits.Add64", "internal/bytealg.IndexByteString", "internal/reflectlite.TypeOf", "internal/bytealg.abigen_runtime_cmpstring", "internal/reflectlite.ValueOf", "(internal/reflectlite.Value).Type", "(internal/reflectlite.Value).IsNil", "(internal/reflectlite.Value).Elem", "(internal/reflectlite.Value).Set"], unfollowed := true, recurses := true, named := ["errors.errorType"], apart := false, laid := [("errors.errorType", laid_errors_errorType)], narrowed := true }
def ExprGroupsUptoSaid : Prop := exprGroupsUptoRow.holds Tryz.pinned (OpenSpec.upto exprGroupsSpec)

/-- 'consistorylaw14.ExprSums', WHERE WHAT IT READS IS OF BULK AT MOST 1048576: true; the input reads as it did. -/
def exprSumsUptoRow : OpenClaim := { program := "ytpnonhjmpnbmcaagreatdoor", sum := "87673d0c23ecbbf610f81eabd2513202eb81e76fa1f847bd6acb35755b9afaf1", func := "consistory/consistorylaw14.ExprSums", spec := "exprSums", inPlace := ["math/bits.Add64", "internal/bytealg.IndexByteString", "internal/reflectlite.TypeOf", "internal/bytealg.abigen_runtime_cmpstring", "internal/reflectlite.ValueOf", "(internal/reflectlite.Value).Type", "(internal/reflectlite.Value).IsNil", "(internal/reflectlite.Value).Elem", "(internal/reflectlite.Value).Set"], unfollowed := true, recurses := true, named := ["errors.errorType"], apart := false, laid := [("errors.errorType", laid_errors_errorType)], narrowed := true }
def ExprSumsUptoSaid : Prop := exprSumsUptoRow.holds Tryz.pinned (OpenSpec.upto exprSumsSpec)

end Rows
end Go.Proofs.YtpnonhjmpnbmcaaGreatDoor
