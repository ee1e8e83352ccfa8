/-
  NARROWER THAN 'FOR EVERY INPUT', by the rows' own cells (each row's printed sentence says how): SnapRounds: laid · SnapPlays: laid · SnapChunks: laid.
  DERIVED. THE GIVEN ROWS OF THIS SEAT. 3 by the template 'for every input the law returns true; each argument reads behind the call as it read before'; 0 by the template 'total and deterministic' (their statements: YtpminalccnhkjaaGreatDoorTotals.lean).
  GIVEN WITH THE SEED: the statements are not yours to turn. If you find one false, say at which input.
  Laid BY PROGRAM, IN A SANDBOX (cutbox-rows.mjs): the forced cells as the released guide's own fill.sh prints them over the translation 15f93d1e24fb29b8… (all of the seat's roots in one cut). By AI agents, Wed Nov 11 2026. No macro, syntax, notation, axiom, sorry.
-/
import Derived.Test.YtpminalccnhkjaaGreatDoorChecked
import GoSem.Claim
import GoSem.ClaimJoined
import GoSem.ClaimMapViews
import Derived.JoinedTies
import Derived.KernelRfl
namespace Go.Proofs.YtpminalccnhkjaaGreatDoor
/- THE CELL 'sum', in the pinned program and in every row, IS THE sha256 OF THE DUMP (.gsa) THAT YtpminalccnhkjaaGreatDoorProg.lean LOADS. Nothing in Lean hashes anything: it is a label: what it is worth is what the hold of that sum in a sandbox is worth. -/
noncomputable def Tryz.pinned : Pinned := { name := "ytpminalccnhkjaagreatdoor", sum := "15f93d1e24fb29b8c956c14603db7ce4b9a25c30d0baa1f0b4efafe3f40266ca", checked := Tryz.checked }
namespace Rows
def none {H : Type} : Left H := { results := [], args := [] }

/- WHAT THE LISTED PACKAGE-LEVEL VARIABLES READ AS WHEN THE CALL BEGINS. Each datum BY PROGRAM (the guide's laid-datum.mjs) off the statement by which the dump's own 'gosem.cut.vars' lays the variable. In a bare row this is a premise. The card (YtpminalccnhkjaaGreatDoorCards.lean) ties it to the program's text. -/
def laid_errors_errorType {H : Type} : DataW H := .iface "internal/reflectlite.rtype" (.agg [.ptr (.lit (.string [101, 114, 114, 111, 114]))])
def laid_consistory_wire_sumSteps {H : Type} : DataW H := .agg [.lit (.int .u32 0), .lit (.int .u32 498536548), .lit (.int .u32 997073096), .lit (.int .u32 651767980), .lit (.int .u32 1994146192), .lit (.int .u32 1802195444), .lit (.int .u32 1303535960), .lit (.int .u32 1342533948), .lit (.int .u32 3988292384), .lit (.int .u32 4027552580), .lit (.int .u32 3604390888), .lit (.int .u32 3412177804), .lit (.int .u32 2607071920), .lit (.int .u32 2262029012), .lit (.int .u32 2685067896), .lit (.int .u32 3183342108)]

/-- 'consistorylaw4.SnapRounds': WHATEVER THE INPUT: true; the input reads as it did. -/
def snapRoundsSpec : ChangeSpec := { name := "snapRounds", fn := fun _ => fun
  | [d1, d2] => { results := [.lit (.bool true)], args := [d1, d2] }
  | _ => none }
def snapRoundsRow : OpenClaim := { program := "ytpminalccnhkjaagreatdoor", sum := "15f93d1e24fb29b8c956c14603db7ce4b9a25c30d0baa1f0b4efafe3f40266ca", func := "consistory/consistorylaw4.SnapRounds", spec := "snapRounds", inPlace := ["internal/reflectlite.ValueOf", "(internal/reflectlite.Value).Type", "(internal/reflectlite.Value).IsNil", "internal/reflectlite.TypeOf", "(internal/reflectlite.Value).Elem", "(internal/reflectlite.Value).Set"], unfollowed := true, recurses := true, named := ["consistory/wire.sumSteps", "errors.errorType"], apart := false, laid := [("errors.errorType", laid_errors_errorType), ("consistory/wire.sumSteps", laid_consistory_wire_sumSteps)] }
def SnapRoundsSaid : Prop := snapRoundsRow.holds Tryz.pinned (OpenSpec.ofChange snapRoundsSpec)

/-- ITS FALSE NEIGHBOUR: 'it returns false'. Refute it at one input. -/
def snapRoundsWrong : ChangeSpec := { name := "snapRounds", fn := fun _ => fun
  | [d1, d2] => { results := [.lit (.bool false)], args := [d1, d2] }
  | _ => none }
def SnapRoundsWrongFalsely : Prop := snapRoundsRow.holds Tryz.pinned (OpenSpec.ofChange snapRoundsWrong)

/-- 'consistorylaw4.SnapPlays': WHATEVER THE INPUT: true; the input reads as it did. -/
def snapPlaysSpec : ChangeSpec := { name := "snapPlays", fn := fun _ => fun
  | [d] => { results := [.lit (.bool true)], args := [d] }
  | _ => none }
def snapPlaysRow : OpenClaim := { program := "ytpminalccnhkjaagreatdoor", sum := "15f93d1e24fb29b8c956c14603db7ce4b9a25c30d0baa1f0b4efafe3f40266ca", func := "consistory/consistorylaw4.SnapPlays", spec := "snapPlays", inPlace := ["internal/reflectlite.ValueOf", "(internal/reflectlite.Value).Type", "(internal/reflectlite.Value).IsNil", "internal/reflectlite.TypeOf", "(internal/reflectlite.Value).Elem", "(internal/reflectlite.Value).Set"], unfollowed := true, recurses := true, named := ["consistory/wire.sumSteps", "errors.errorType"], apart := false, laid := [("errors.errorType", laid_errors_errorType), ("consistory/wire.sumSteps", laid_consistory_wire_sumSteps)] }
def SnapPlaysSaid : Prop := snapPlaysRow.holds Tryz.pinned (OpenSpec.ofChange snapPlaysSpec)

/-- ITS FALSE NEIGHBOUR: 'it returns false'. Refute it at one input. -/
def snapPlaysWrong : ChangeSpec := { name := "snapPlays", fn := fun _ => fun
  | [d] => { results := [.lit (.bool false)], args := [d] }
  | _ => none }
def SnapPlaysWrongFalsely : Prop := snapPlaysRow.holds Tryz.pinned (OpenSpec.ofChange snapPlaysWrong)

/-- 'consistorylaw4.SnapChunks': WHATEVER THE INPUT: true; the input reads as it did. -/
def snapChunksSpec : ChangeSpec := { name := "snapChunks", fn := fun _ => fun
  | [d1, d2] => { results := [.lit (.bool true)], args := [d1, d2] }
  | _ => none }
def snapChunksRow : OpenClaim := { program := "ytpminalccnhkjaagreatdoor", sum := "15f93d1e24fb29b8c956c14603db7ce4b9a25c30d0baa1f0b4efafe3f40266ca", func := "consistory/consistorylaw4.SnapChunks", spec := "snapChunks", inPlace := ["internal/reflectlite.ValueOf", "(internal/reflectlite.Value).Type", "(internal/reflectlite.Value).IsNil", "internal/reflectlite.TypeOf", "(internal/reflectlite.Value).Elem", "(internal/reflectlite.Value).Set"], unfollowed := true, recurses := true, named := ["consistory/wire.sumSteps", "errors.errorType"], apart := false, laid := [("errors.errorType", laid_errors_errorType), ("consistory/wire.sumSteps", laid_consistory_wire_sumSteps)] }
def SnapChunksSaid : Prop := snapChunksRow.holds Tryz.pinned (OpenSpec.ofChange snapChunksSpec)

/-- ITS FALSE NEIGHBOUR: 'it returns false'. Refute it at one input. -/
def snapChunksWrong : ChangeSpec := { name := "snapChunks", fn := fun _ => fun
  | [d1, d2] => { results := [.lit (.bool false)], args := [d1, d2] }
  | _ => none }
def SnapChunksWrongFalsely : Prop := snapChunksRow.holds Tryz.pinned (OpenSpec.ofChange snapChunksWrong)

/- THE SECOND FORM. 'bulk': how many values and letters a reading holds, each counted each time it is reached (what is shared counts as often as it is met; a slice's spare places count too). A statement '..UptoSaid' is the law's where the arguments, and the package variables that the reading takes, are together of bulk at most 1048576: NARROWER than '..Said'. Prove '..Said' where nothing that the law and all that it calls make is longer than what came in: it says more and counts as full. Else prove '..UptoSaid'. A law counts once. -/
mutual
def uptoBulk {H : Type} : DataW H → Nat
  | .lit (.string bytes) => bytes.length + 1
  | .lit _ => 1
  | .nil => 1
  | .ptr d => uptoBulk d + 1
  | .slice elems spare => uptoBulkAll elems + uptoBulkAll spare + 1
  | .agg parts => uptoBulkAll parts + 1
  | .iface _ d => uptoBulk d + 1
  | .map entries => uptoBulkEntries entries + 1
  | .held _ => 1
def uptoBulkAll {H : Type} : List (DataW H) → Nat
  | [] => 0
  | d :: r => uptoBulk d + uptoBulkAll r
def uptoBulkEntries {H : Type} : List (Lit × DataW H) → Nat
  | [] => 0
  | x :: r => uptoBulkEntry x + uptoBulkEntries r
def uptoBulkEntry {H : Type} : Lit × DataW H → Nat
  | (.string bytes, d) => bytes.length + uptoBulk d + 1
  | (_, d) => uptoBulk d + 1
 end
def uptoSmall : (H : Type) → List (DataW H) → Bool := fun _ ds => decide (uptoBulkAll ds ≤ 1048576)
def OpenSpec.upto (s : _root_.Go.ChangeSpec) : _root_.Go.OpenSpec := { _root_.Go.OpenSpec.ofChange s with cond := some uptoSmall }

/-- 'consistorylaw4.SnapRounds', WHERE WHAT IT READS IS OF BULK AT MOST 1048576: true; the input reads as it did. -/
def snapRoundsUptoRow : OpenClaim := { program := "ytpminalccnhkjaagreatdoor", sum := "15f93d1e24fb29b8c956c14603db7ce4b9a25c30d0baa1f0b4efafe3f40266ca", func := "consistory/consistorylaw4.SnapRounds", spec := "snapRounds", inPlace := ["internal/reflectlite.ValueOf", "(internal/reflectlite.Value).Type", "(internal/reflectlite.Value).IsNil", "internal/reflectlite.TypeOf", "(internal/reflectlite.Value).Elem", "(internal/reflectlite.Value).Set"], unfollowed := true, recurses := true, named := ["consistory/wire.sumSteps", "errors.errorType"], apart := false, laid := [("errors.errorType", laid_errors_errorType), ("consistory/wire.sumSteps", laid_consistory_wire_sumSteps)], narrowed := true }
def SnapRoundsUptoSaid : Prop := snapRoundsUptoRow.holds Tryz.pinned (OpenSpec.upto snapRoundsSpec)

/-- 'consistorylaw4.SnapPlays', WHERE WHAT IT READS IS OF BULK AT MOST 1048576: true; the input reads as it did. -/
def snapPlaysUptoRow : OpenClaim := { program := "ytpminalccnhkjaagreatdoor", sum := "15f93d1e24fb29b8c956c14603db7ce4b9a25c30d0baa1f0b4efafe3f40266ca", func := "consistory/consistorylaw4.SnapPlays", spec := "snapPlays", inPlace := ["internal/reflectlite.ValueOf", "(internal/reflectlite.Value).Type", "(internal/reflectlite.Value).IsNil", "internal/reflectlite.TypeOf", "(internal/reflectlite.Value).Elem", "(internal/reflectlite.Value).Set"], unfollowed := true, recurses := true, named := ["consistory/wire.sumSteps", "errors.errorType"], apart := false, laid := [("errors.errorType", laid_errors_errorType), ("consistory/wire.sumSteps", laid_consistory_wire_sumSteps)], narrowed := true }
def SnapPlaysUptoSaid : Prop := snapPlaysUptoRow.holds Tryz.pinned (OpenSpec.upto snapPlaysSpec)

/-- 'consistorylaw4.SnapChunks', WHERE WHAT IT READS IS OF BULK AT MOST 1048576: true; the input reads as it did. -/
def snapChunksUptoRow : OpenClaim := { program := "ytpminalccnhkjaagreatdoor", sum := "15f93d1e24fb29b8c956c14603db7ce4b9a25c30d0baa1f0b4efafe3f40266ca", func := "consistory/consistorylaw4.SnapChunks", spec := "snapChunks", inPlace := ["internal/reflectlite.ValueOf", "(internal/reflectlite.Value).Type", "(internal/reflectlite.Value).IsNil", "internal/reflectlite.TypeOf", "(internal/reflectlite.Value).Elem", "(internal/reflectlite.Value).Set"], unfollowed := true, recurses := true, named := ["consistory/wire.sumSteps", "errors.errorType"], apart := false, laid := [("errors.errorType", laid_errors_errorType), ("consistory/wire.sumSteps", laid_consistory_wire_sumSteps)], narrowed := true }
def SnapChunksUptoSaid : Prop := snapChunksUptoRow.holds Tryz.pinned (OpenSpec.upto snapChunksSpec)

end Rows
end Go.Proofs.YtpminalccnhkjaaGreatDoor
