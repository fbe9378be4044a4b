/-
  NARROWER THAN 'FOR EVERY INPUT', by the rows' own cells (each row's printed sentence says how): Names: laid · Cut: laid · Back: laid · Small: laid · Local: laid · Made: laid · Wrong: laid · Chunked: laid · Along: laid.
  DERIVED. THE GIVEN ROWS OF THIS SEAT. 9 by the template 'for every input the law returns true; each argument reads behind the call as it read before'; 0 by the template 'total and deterministic' (their statements: YtafkpmjifgohcaaDoorTotals.lean).
  GIVEN WITH THE SEED: the statements are not yours to turn. If you find one false, say at which input.
  Laid BY PROGRAM, IN A SANDBOX (cutbox-rows.mjs): the forced cells as the released guide's own fill.sh prints them over the translation 23dd0ddb98aa6e3c… (all of the seat's roots in one cut). By AI agents, Wed Nov 11 2026. No macro, syntax, notation, axiom, sorry.
-/
import Derived.Test.YtafkpmjifgohcaaDoorChecked
import GoSem.Claim
import GoSem.ClaimJoined
import GoSem.ClaimMapViews
import Derived.JoinedTies
import Derived.KernelRfl
namespace Go.Proofs.YtafkpmjifgohcaaDoor
/- THE CELL 'sum', in the pinned program and in every row, IS THE sha256 OF THE DUMP (.gsa) THAT YtafkpmjifgohcaaDoorProg.lean LOADS. Nothing in Lean hashes anything: it is a label: what it is worth is what the hold of that sum in a sandbox is worth. -/
noncomputable def Tryd.pinned : Pinned := { name := "ytafkpmjifgohcaadoor", sum := "23dd0ddb98aa6e3c555fb493bcc8dc4b5880cb4c80975d43c85a7c5f4aa32061", checked := Tryd.checked }
namespace Rows
def none {H : Type} : Left H := { results := [], args := [] }

/- WHAT THE LISTED PACKAGE-LEVEL VARIABLES READ AS WHEN THE CALL BEGINS. Each datum BY PROGRAM (the guide's laid-datum.mjs) off the statement by which the dump's own 'gosem.cut.vars' lays the variable. In a bare row this is a premise. The card (YtafkpmjifgohcaaDoorCards.lean) ties it to the program's text. -/
def laid_skipper_api_ErrSize {H : Type} : DataW H := .iface "*errors.errorString" (.ptr (.agg [.lit (.string [115, 107, 105, 112, 112, 101, 114, 58, 32, 115, 105, 122, 101])]))
def laid_skipper_api_ErrMagic {H : Type} : DataW H := .iface "*errors.errorString" (.ptr (.agg [.lit (.string [115, 107, 105, 112, 112, 101, 114, 58, 32, 110, 111, 116, 32, 97, 32, 102, 105, 108, 101, 32, 111, 102, 32, 111, 117, 114, 115])]))
def laid_skipper_api_ErrHeader {H : Type} : DataW H := .iface "*errors.errorString" (.ptr (.agg [.lit (.string [115, 107, 105, 112, 112, 101, 114, 58, 32, 104, 101, 97, 100, 101, 114])]))
def laid_skipper_api_ErrEnd {H : Type} : DataW H := .iface "*errors.errorString" (.ptr (.agg [.lit (.string [115, 107, 105, 112, 112, 101, 114, 58, 32, 116, 104, 101, 32, 102, 105, 108, 101, 32, 101, 110, 100, 115, 32, 116, 111, 111, 32, 101, 97, 114, 108, 121])]))
def laid_skipper_api_ErrRange {H : Type} : DataW H := .iface "*errors.errorString" (.ptr (.agg [.lit (.string [115, 107, 105, 112, 112, 101, 114, 58, 32, 114, 97, 110, 103, 101])]))
def laid_skipper_api_ErrSum {H : Type} : DataW H := .iface "*errors.errorString" (.ptr (.agg [.lit (.string [115, 107, 105, 112, 112, 101, 114, 58, 32, 115, 117, 109])]))
def laid_skipper_api_ErrToken {H : Type} : DataW H := .iface "*errors.errorString" (.ptr (.agg [.lit (.string [115, 107, 105, 112, 112, 101, 114, 58, 32, 116, 111, 107, 101, 110])]))
def laid_errors_errorType {H : Type} : DataW H := .iface "internal/reflectlite.rtype" (.agg [.ptr (.lit (.string [101, 114, 114, 111, 114]))])

/-- 'skipperlaw.Names': WHATEVER THE INPUT: true; the input reads as it did. -/
def namesSpec : ChangeSpec := { name := "names", fn := fun _ => fun
  | [] => { results := [.lit (.bool true)], args := [] }
  | _ => none }
def namesRow : OpenClaim := { program := "ytafkpmjifgohcaadoor", sum := "23dd0ddb98aa6e3c555fb493bcc8dc4b5880cb4c80975d43c85a7c5f4aa32061", func := "skipper/skipperlaw.Names", spec := "names", named := ["skipper/api.ErrSize", "skipper/api.ErrMagic", "skipper/api.ErrHeader", "skipper/api.ErrEnd", "skipper/api.ErrRange", "skipper/api.ErrSum", "skipper/api.ErrToken"], apart := false, laid := [("skipper/api.ErrSize", laid_skipper_api_ErrSize), ("skipper/api.ErrMagic", laid_skipper_api_ErrMagic), ("skipper/api.ErrHeader", laid_skipper_api_ErrHeader), ("skipper/api.ErrEnd", laid_skipper_api_ErrEnd), ("skipper/api.ErrRange", laid_skipper_api_ErrRange), ("skipper/api.ErrSum", laid_skipper_api_ErrSum), ("skipper/api.ErrToken", laid_skipper_api_ErrToken)] }
def NamesSaid : Prop := namesRow.holds Tryd.pinned (OpenSpec.ofChange namesSpec)

/-- ITS FALSE NEIGHBOUR: 'it returns false'. Refute it at one input. -/
def namesWrong : ChangeSpec := { name := "names", fn := fun _ => fun
  | [] => { results := [.lit (.bool false)], args := [] }
  | _ => none }
def NamesWrongFalsely : Prop := namesRow.holds Tryd.pinned (OpenSpec.ofChange namesWrong)

/-- 'skipperkeep.Cut': WHATEVER THE INPUT: true; the input reads as it did. -/
def cutSpec : ChangeSpec := { name := "cut", fn := fun _ => fun
  | [d1, d2, d3] => { results := [.lit (.bool true)], args := [d1, d2, d3] }
  | _ => none }
def cutRow : OpenClaim := { program := "ytafkpmjifgohcaadoor", sum := "23dd0ddb98aa6e3c555fb493bcc8dc4b5880cb4c80975d43c85a7c5f4aa32061", func := "skipper/skipperkeep.Cut", spec := "cut", inPlace := ["internal/reflectlite.TypeOf"], unfollowed := true, recurses := true, named := ["skipper/api.ErrEnd", "skipper/api.ErrMagic", "skipper/api.ErrSize", "skipper/api.ErrHeader", "skipper/api.ErrRange", "skipper/api.ErrSum", "skipper/api.ErrToken"], apart := false, laid := [("skipper/api.ErrSize", laid_skipper_api_ErrSize), ("skipper/api.ErrMagic", laid_skipper_api_ErrMagic), ("skipper/api.ErrHeader", laid_skipper_api_ErrHeader), ("skipper/api.ErrEnd", laid_skipper_api_ErrEnd), ("skipper/api.ErrRange", laid_skipper_api_ErrRange), ("skipper/api.ErrSum", laid_skipper_api_ErrSum), ("skipper/api.ErrToken", laid_skipper_api_ErrToken)] }
def CutSaid : Prop := cutRow.holds Tryd.pinned (OpenSpec.ofChange cutSpec)

/-- ITS FALSE NEIGHBOUR: 'it returns false'. Refute it at one input. -/
def cutWrong : ChangeSpec := { name := "cut", fn := fun _ => fun
  | [d1, d2, d3] => { results := [.lit (.bool false)], args := [d1, d2, d3] }
  | _ => none }
def CutWrongFalsely : Prop := cutRow.holds Tryd.pinned (OpenSpec.ofChange cutWrong)

/-- 'skipperkeep.Back': WHATEVER THE INPUT: true; the input reads as it did. -/
def backSpec : ChangeSpec := { name := "back", fn := fun _ => fun
  | [d1, d2, d3, d4, d5, d6] => { results := [.lit (.bool true)], args := [d1, d2, d3, d4, d5, d6] }
  | _ => none }
def backRow : OpenClaim := { program := "ytafkpmjifgohcaadoor", sum := "23dd0ddb98aa6e3c555fb493bcc8dc4b5880cb4c80975d43c85a7c5f4aa32061", func := "skipper/skipperkeep.Back", spec := "back", inPlace := ["internal/reflectlite.TypeOf", "internal/reflectlite.ValueOf", "(internal/reflectlite.Value).Type", "(internal/reflectlite.Value).IsNil", "(internal/reflectlite.Value).Elem", "(internal/reflectlite.Value).Set"], unfollowed := true, recurses := true, named := ["skipper/api.ErrRange", "skipper/api.ErrSize", "skipper/api.ErrMagic", "skipper/api.ErrHeader", "skipper/api.ErrEnd", "skipper/api.ErrSum", "skipper/api.ErrToken", "errors.errorType"], apart := false, laid := [("errors.errorType", laid_errors_errorType), ("skipper/api.ErrSize", laid_skipper_api_ErrSize), ("skipper/api.ErrMagic", laid_skipper_api_ErrMagic), ("skipper/api.ErrHeader", laid_skipper_api_ErrHeader), ("skipper/api.ErrEnd", laid_skipper_api_ErrEnd), ("skipper/api.ErrRange", laid_skipper_api_ErrRange), ("skipper/api.ErrSum", laid_skipper_api_ErrSum), ("skipper/api.ErrToken", laid_skipper_api_ErrToken)] }
def BackSaid : Prop := backRow.holds Tryd.pinned (OpenSpec.ofChange backSpec)

/-- ITS FALSE NEIGHBOUR: 'it returns false'. Refute it at one input. -/
def backWrong : ChangeSpec := { name := "back", fn := fun _ => fun
  | [d1, d2, d3, d4, d5, d6] => { results := [.lit (.bool false)], args := [d1, d2, d3, d4, d5, d6] }
  | _ => none }
def BackWrongFalsely : Prop := backRow.holds Tryd.pinned (OpenSpec.ofChange backWrong)

/-- 'skipperkeep.Small': WHATEVER THE INPUT: true; the input reads as it did. -/
def smallSpec : ChangeSpec := { name := "small", fn := fun _ => fun
  | [d1, d2, d3] => { results := [.lit (.bool true)], args := [d1, d2, d3] }
  | _ => none }
def smallRow : OpenClaim := { program := "ytafkpmjifgohcaadoor", sum := "23dd0ddb98aa6e3c555fb493bcc8dc4b5880cb4c80975d43c85a7c5f4aa32061", func := "skipper/skipperkeep.Small", spec := "small", inPlace := ["internal/reflectlite.TypeOf"], unfollowed := true, recurses := true, named := ["skipper/api.ErrSize", "skipper/api.ErrMagic", "skipper/api.ErrHeader", "skipper/api.ErrEnd", "skipper/api.ErrRange", "skipper/api.ErrSum", "skipper/api.ErrToken"], apart := false, laid := [("skipper/api.ErrSize", laid_skipper_api_ErrSize), ("skipper/api.ErrMagic", laid_skipper_api_ErrMagic), ("skipper/api.ErrHeader", laid_skipper_api_ErrHeader), ("skipper/api.ErrEnd", laid_skipper_api_ErrEnd), ("skipper/api.ErrRange", laid_skipper_api_ErrRange), ("skipper/api.ErrSum", laid_skipper_api_ErrSum), ("skipper/api.ErrToken", laid_skipper_api_ErrToken)] }
def SmallSaid : Prop := smallRow.holds Tryd.pinned (OpenSpec.ofChange smallSpec)

/-- ITS FALSE NEIGHBOUR: 'it returns false'. Refute it at one input. -/
def smallWrong : ChangeSpec := { name := "small", fn := fun _ => fun
  | [d1, d2, d3] => { results := [.lit (.bool false)], args := [d1, d2, d3] }
  | _ => none }
def SmallWrongFalsely : Prop := smallRow.holds Tryd.pinned (OpenSpec.ofChange smallWrong)

/-- 'skipperkeep.Local': WHATEVER THE INPUT: true; the input reads as it did. -/
def localSpec : ChangeSpec := { name := "local", fn := fun _ => fun
  | [d1, d2, d3, d4, d5, d6] => { results := [.lit (.bool true)], args := [d1, d2, d3, d4, d5, d6] }
  | _ => none }
def localRow : OpenClaim := { program := "ytafkpmjifgohcaadoor", sum := "23dd0ddb98aa6e3c555fb493bcc8dc4b5880cb4c80975d43c85a7c5f4aa32061", func := "skipper/skipperkeep.Local", spec := "local", inPlace := ["internal/reflectlite.TypeOf", "internal/reflectlite.ValueOf", "(internal/reflectlite.Value).Type", "(internal/reflectlite.Value).IsNil", "(internal/reflectlite.Value).Elem", "(internal/reflectlite.Value).Set"], unfollowed := true, recurses := true, named := ["skipper/api.ErrSize", "skipper/api.ErrMagic", "skipper/api.ErrHeader", "skipper/api.ErrEnd", "skipper/api.ErrRange", "skipper/api.ErrSum", "skipper/api.ErrToken", "errors.errorType"], apart := false, laid := [("errors.errorType", laid_errors_errorType), ("skipper/api.ErrSize", laid_skipper_api_ErrSize), ("skipper/api.ErrMagic", laid_skipper_api_ErrMagic), ("skipper/api.ErrHeader", laid_skipper_api_ErrHeader), ("skipper/api.ErrEnd", laid_skipper_api_ErrEnd), ("skipper/api.ErrRange", laid_skipper_api_ErrRange), ("skipper/api.ErrSum", laid_skipper_api_ErrSum), ("skipper/api.ErrToken", laid_skipper_api_ErrToken)] }
def LocalSaid : Prop := localRow.holds Tryd.pinned (OpenSpec.ofChange localSpec)

/-- ITS FALSE NEIGHBOUR: 'it returns false'. Refute it at one input. -/
def localWrong : ChangeSpec := { name := "local", fn := fun _ => fun
  | [d1, d2, d3, d4, d5, d6] => { results := [.lit (.bool false)], args := [d1, d2, d3, d4, d5, d6] }
  | _ => none }
def LocalWrongFalsely : Prop := localRow.holds Tryd.pinned (OpenSpec.ofChange localWrong)

/-- 'skipperkeep.Made': WHATEVER THE INPUT: true; the input reads as it did. -/
def madeSpec : ChangeSpec := { name := "made", fn := fun _ => fun
  | [d1, d2, d3, d4] => { results := [.lit (.bool true)], args := [d1, d2, d3, d4] }
  | _ => none }
def madeRow : OpenClaim := { program := "ytafkpmjifgohcaadoor", sum := "23dd0ddb98aa6e3c555fb493bcc8dc4b5880cb4c80975d43c85a7c5f4aa32061", func := "skipper/skipperkeep.Made", spec := "made", inPlace := ["internal/reflectlite.TypeOf"], unfollowed := true, recurses := true, named := ["skipper/api.ErrSize", "skipper/api.ErrMagic", "skipper/api.ErrHeader", "skipper/api.ErrEnd", "skipper/api.ErrRange", "skipper/api.ErrSum", "skipper/api.ErrToken"], apart := false, laid := [("skipper/api.ErrSize", laid_skipper_api_ErrSize), ("skipper/api.ErrMagic", laid_skipper_api_ErrMagic), ("skipper/api.ErrHeader", laid_skipper_api_ErrHeader), ("skipper/api.ErrEnd", laid_skipper_api_ErrEnd), ("skipper/api.ErrRange", laid_skipper_api_ErrRange), ("skipper/api.ErrSum", laid_skipper_api_ErrSum), ("skipper/api.ErrToken", laid_skipper_api_ErrToken)] }
def MadeSaid : Prop := madeRow.holds Tryd.pinned (OpenSpec.ofChange madeSpec)

/-- ITS FALSE NEIGHBOUR: 'it returns false'. Refute it at one input. -/
def madeWrong : ChangeSpec := { name := "made", fn := fun _ => fun
  | [d1, d2, d3, d4] => { results := [.lit (.bool false)], args := [d1, d2, d3, d4] }
  | _ => none }
def MadeWrongFalsely : Prop := madeRow.holds Tryd.pinned (OpenSpec.ofChange madeWrong)

/-- 'skipperkeep.Wrong': WHATEVER THE INPUT: true; the input reads as it did. -/
def wrongSpec : ChangeSpec := { name := "wrong", fn := fun _ => fun
  | [d1, d2, d3] => { results := [.lit (.bool true)], args := [d1, d2, d3] }
  | _ => none }
def wrongRow : OpenClaim := { program := "ytafkpmjifgohcaadoor", sum := "23dd0ddb98aa6e3c555fb493bcc8dc4b5880cb4c80975d43c85a7c5f4aa32061", func := "skipper/skipperkeep.Wrong", spec := "wrong", inPlace := ["internal/reflectlite.TypeOf", "internal/reflectlite.ValueOf", "(internal/reflectlite.Value).Type", "(internal/reflectlite.Value).IsNil", "(internal/reflectlite.Value).Elem", "(internal/reflectlite.Value).Set"], unfollowed := true, recurses := true, named := ["skipper/api.ErrSize", "skipper/api.ErrMagic", "skipper/api.ErrHeader", "skipper/api.ErrEnd", "skipper/api.ErrRange", "skipper/api.ErrSum", "skipper/api.ErrToken", "errors.errorType"], apart := false, laid := [("errors.errorType", laid_errors_errorType), ("skipper/api.ErrSize", laid_skipper_api_ErrSize), ("skipper/api.ErrMagic", laid_skipper_api_ErrMagic), ("skipper/api.ErrHeader", laid_skipper_api_ErrHeader), ("skipper/api.ErrEnd", laid_skipper_api_ErrEnd), ("skipper/api.ErrRange", laid_skipper_api_ErrRange), ("skipper/api.ErrSum", laid_skipper_api_ErrSum), ("skipper/api.ErrToken", laid_skipper_api_ErrToken)] }
def WrongSaid : Prop := wrongRow.holds Tryd.pinned (OpenSpec.ofChange wrongSpec)

/-- ITS FALSE NEIGHBOUR: 'it returns false'. Refute it at one input. -/
def wrongWrong : ChangeSpec := { name := "wrong", fn := fun _ => fun
  | [d1, d2, d3] => { results := [.lit (.bool false)], args := [d1, d2, d3] }
  | _ => none }
def WrongWrongFalsely : Prop := wrongRow.holds Tryd.pinned (OpenSpec.ofChange wrongWrong)

/-- 'skipperlaw.Chunked': WHATEVER THE INPUT: true; the input reads as it did. -/
def chunkedSpec : ChangeSpec := { name := "chunked", fn := fun _ => fun
  | [d1, d2, d3, d4, d5, d6] => { results := [.lit (.bool true)], args := [d1, d2, d3, d4, d5, d6] }
  | _ => none }
def chunkedRow : OpenClaim := { program := "ytafkpmjifgohcaadoor", sum := "23dd0ddb98aa6e3c555fb493bcc8dc4b5880cb4c80975d43c85a7c5f4aa32061", func := "skipper/skipperlaw.Chunked", spec := "chunked", inPlace := ["internal/reflectlite.TypeOf"], unfollowed := true, recurses := true, named := ["skipper/api.ErrSize", "skipper/api.ErrMagic", "skipper/api.ErrHeader", "skipper/api.ErrEnd", "skipper/api.ErrSum", "skipper/api.ErrToken"], apart := false, laid := [("skipper/api.ErrSize", laid_skipper_api_ErrSize), ("skipper/api.ErrMagic", laid_skipper_api_ErrMagic), ("skipper/api.ErrHeader", laid_skipper_api_ErrHeader), ("skipper/api.ErrEnd", laid_skipper_api_ErrEnd), ("skipper/api.ErrSum", laid_skipper_api_ErrSum), ("skipper/api.ErrToken", laid_skipper_api_ErrToken)] }
def ChunkedSaid : Prop := chunkedRow.holds Tryd.pinned (OpenSpec.ofChange chunkedSpec)

/-- ITS FALSE NEIGHBOUR: 'it returns false'. Refute it at one input. -/
def chunkedWrong : ChangeSpec := { name := "chunked", fn := fun _ => fun
  | [d1, d2, d3, d4, d5, d6] => { results := [.lit (.bool false)], args := [d1, d2, d3, d4, d5, d6] }
  | _ => none }
def ChunkedWrongFalsely : Prop := chunkedRow.holds Tryd.pinned (OpenSpec.ofChange chunkedWrong)

/-- 'skipperkeep.Along': WHATEVER THE INPUT: true; the input reads as it did. -/
def alongSpec : ChangeSpec := { name := "along", fn := fun _ => fun
  | [d1, d2, d3, d4] => { results := [.lit (.bool true)], args := [d1, d2, d3, d4] }
  | _ => none }
def alongRow : OpenClaim := { program := "ytafkpmjifgohcaadoor", sum := "23dd0ddb98aa6e3c555fb493bcc8dc4b5880cb4c80975d43c85a7c5f4aa32061", func := "skipper/skipperkeep.Along", spec := "along", inPlace := ["internal/reflectlite.TypeOf"], unfollowed := true, recurses := true, named := ["skipper/api.ErrSize", "skipper/api.ErrMagic", "skipper/api.ErrHeader", "skipper/api.ErrEnd", "skipper/api.ErrRange", "skipper/api.ErrSum", "skipper/api.ErrToken"], apart := false, laid := [("skipper/api.ErrSize", laid_skipper_api_ErrSize), ("skipper/api.ErrMagic", laid_skipper_api_ErrMagic), ("skipper/api.ErrHeader", laid_skipper_api_ErrHeader), ("skipper/api.ErrEnd", laid_skipper_api_ErrEnd), ("skipper/api.ErrRange", laid_skipper_api_ErrRange), ("skipper/api.ErrSum", laid_skipper_api_ErrSum), ("skipper/api.ErrToken", laid_skipper_api_ErrToken)] }
def AlongSaid : Prop := alongRow.holds Tryd.pinned (OpenSpec.ofChange alongSpec)

/-- ITS FALSE NEIGHBOUR: 'it returns false'. Refute it at one input. -/
def alongWrong : ChangeSpec := { name := "along", fn := fun _ => fun
  | [d1, d2, d3, d4] => { results := [.lit (.bool false)], args := [d1, d2, d3, d4] }
  | _ => none }
def AlongWrongFalsely : Prop := alongRow.holds Tryd.pinned (OpenSpec.ofChange alongWrong)

/- THE SECOND FORM. 'bulk': how many values and letters a reading holds, each counted each time it is reached (what is shared counts as often as it is met; a slice's spare places count too). A statement '..UptoSaid' is the law's where the arguments, and the package variables that the reading takes, are together of bulk at most 1048576: NARROWER than '..Said'. Prove '..Said' where nothing that the law and all that it calls make is longer than what came in: it says more and counts as full. Else prove '..UptoSaid'. A law counts once. -/
mutual
def uptoBulk {H : Type} : DataW H → Nat
  | .lit (.string bytes) => bytes.length + 1
  | .lit _ => 1
  | .nil => 1
  | .ptr d => uptoBulk d + 1
  | .slice elems spare => uptoBulkAll elems + uptoBulkAll spare + 1
  | .agg parts => uptoBulkAll parts + 1
  | .iface _ d => uptoBulk d + 1
  | .map entries => uptoBulkEntries entries + 1
  | .held _ => 1
def uptoBulkAll {H : Type} : List (DataW H) → Nat
  | [] => 0
  | d :: r => uptoBulk d + uptoBulkAll r
def uptoBulkEntries {H : Type} : List (Lit × DataW H) → Nat
  | [] => 0
  | x :: r => uptoBulkEntry x + uptoBulkEntries r
def uptoBulkEntry {H : Type} : Lit × DataW H → Nat
  | (.string bytes, d) => bytes.length + uptoBulk d + 1
  | (_, d) => uptoBulk d + 1
 end
def uptoSmall : (H : Type) → List (DataW H) → Bool := fun _ ds => decide (uptoBulkAll ds ≤ 1048576)
def OpenSpec.upto (s : _root_.Go.ChangeSpec) : _root_.Go.OpenSpec := { _root_.Go.OpenSpec.ofChange s with cond := some uptoSmall }

/-- 'skipperlaw.Names', WHERE WHAT IT READS IS OF BULK AT MOST 1048576: true; the input reads as it did. -/
def namesUptoRow : OpenClaim := { program := "ytafkpmjifgohcaadoor", sum := "23dd0ddb98aa6e3c555fb493bcc8dc4b5880cb4c80975d43c85a7c5f4aa32061", func := "skipper/skipperlaw.Names", spec := "names", named := ["skipper/api.ErrSize", "skipper/api.ErrMagic", "skipper/api.ErrHeader", "skipper/api.ErrEnd", "skipper/api.ErrRange", "skipper/api.ErrSum", "skipper/api.ErrToken"], apart := false, laid := [("skipper/api.ErrSize", laid_skipper_api_ErrSize), ("skipper/api.ErrMagic", laid_skipper_api_ErrMagic), ("skipper/api.ErrHeader", laid_skipper_api_ErrHeader), ("skipper/api.ErrEnd", laid_skipper_api_ErrEnd), ("skipper/api.ErrRange", laid_skipper_api_ErrRange), ("skipper/api.ErrSum", laid_skipper_api_ErrSum), ("skipper/api.ErrToken", laid_skipper_api_ErrToken)], narrowed := true }
def NamesUptoSaid : Prop := namesUptoRow.holds Tryd.pinned (OpenSpec.upto namesSpec)

/-- 'skipperkeep.Cut', WHERE WHAT IT READS IS OF BULK AT MOST 1048576: true; the input reads as it did. -/
def cutUptoRow : OpenClaim := { program := "ytafkpmjifgohcaadoor", sum := "23dd0ddb98aa6e3c555fb493bcc8dc4b5880cb4c80975d43c85a7c5f4aa32061", func := "skipper/skipperkeep.Cut", spec := "cut", inPlace := ["internal/reflectlite.TypeOf"], unfollowed := true, recurses := true, named := ["skipper/api.ErrEnd", "skipper/api.ErrMagic", "skipper/api.ErrSize", "skipper/api.ErrHeader", "skipper/api.ErrRange", "skipper/api.ErrSum", "skipper/api.ErrToken"], apart := false, laid := [("skipper/api.ErrSize", laid_skipper_api_ErrSize), ("skipper/api.ErrMagic", laid_skipper_api_ErrMagic), ("skipper/api.ErrHeader", laid_skipper_api_ErrHeader), ("skipper/api.ErrEnd", laid_skipper_api_ErrEnd), ("skipper/api.ErrRange", laid_skipper_api_ErrRange), ("skipper/api.ErrSum", laid_skipper_api_ErrSum), ("skipper/api.ErrToken", laid_skipper_api_ErrToken)], narrowed := true }
def CutUptoSaid : Prop := cutUptoRow.holds Tryd.pinned (OpenSpec.upto cutSpec)

/-- 'skipperkeep.Back', WHERE WHAT IT READS IS OF BULK AT MOST 1048576: true; the input reads as it did. -/
def backUptoRow : OpenClaim := { program := "ytafkpmjifgohcaadoor", sum := "23dd0ddb98aa6e3c555fb493bcc8dc4b5880cb4c80975d43c85a7c5f4aa32061", func := "skipper/skipperkeep.Back", spec := "back", inPlace := ["internal/reflectlite.TypeOf", "internal/reflectlite.ValueOf", "(internal/reflectlite.Value).Type", "(internal/reflectlite.Value).IsNil", "(internal/reflectlite.Value).Elem", "(internal/reflectlite.Value).Set"], unfollowed := true, recurses := true, named := ["skipper/api.ErrRange", "skipper/api.ErrSize", "skipper/api.ErrMagic", "skipper/api.ErrHeader", "skipper/api.ErrEnd", "skipper/api.ErrSum", "skipper/api.ErrToken", "errors.errorType"], apart := false, laid := [("errors.errorType", laid_errors_errorType), ("skipper/api.ErrSize", laid_skipper_api_ErrSize), ("skipper/api.ErrMagic", laid_skipper_api_ErrMagic), ("skipper/api.ErrHeader", laid_skipper_api_ErrHeader), ("skipper/api.ErrEnd", laid_skipper_api_ErrEnd), ("skipper/api.ErrRange", laid_skipper_api_ErrRange), ("skipper/api.ErrSum", laid_skipper_api_ErrSum), ("skipper/api.ErrToken", laid_skipper_api_ErrToken)], narrowed := true }
def BackUptoSaid : Prop := backUptoRow.holds Tryd.pinned (OpenSpec.upto backSpec)

/-- 'skipperkeep.Small', WHERE WHAT IT READS IS OF BULK AT MOST 1048576: true; the input reads as it did. -/
def smallUptoRow : OpenClaim := { program := "ytafkpmjifgohcaadoor", sum := "23dd0ddb98aa6e3c555fb493bcc8dc4b5880cb4c80975d43c85a7c5f4aa32061", func := "skipper/skipperkeep.Small", spec := "small", inPlace := ["internal/reflectlite.TypeOf"], unfollowed := true, recurses := true, named := ["skipper/api.ErrSize", "skipper/api.ErrMagic", "skipper/api.ErrHeader", "skipper/api.ErrEnd", "skipper/api.ErrRange", "skipper/api.ErrSum", "skipper/api.ErrToken"], apart := false, laid := [("skipper/api.ErrSize", laid_skipper_api_ErrSize), ("skipper/api.ErrMagic", laid_skipper_api_ErrMagic), ("skipper/api.ErrHeader", laid_skipper_api_ErrHeader), ("skipper/api.ErrEnd", laid_skipper_api_ErrEnd), ("skipper/api.ErrRange", laid_skipper_api_ErrRange), ("skipper/api.ErrSum", laid_skipper_api_ErrSum), ("skipper/api.ErrToken", laid_skipper_api_ErrToken)], narrowed := true }
def SmallUptoSaid : Prop := smallUptoRow.holds Tryd.pinned (OpenSpec.upto smallSpec)

/-- 'skipperkeep.Local', WHERE WHAT IT READS IS OF BULK AT MOST 1048576: true; the input reads as it did. -/
def localUptoRow : OpenClaim := { program := "ytafkpmjifgohcaadoor", sum := "23dd0ddb98aa6e3c555fb493bcc8dc4b5880cb4c80975d43c85a7c5f4aa32061", func := "skipper/skipperkeep.Local", spec := "local", inPlace := ["internal/reflectlite.TypeOf", "internal/reflectlite.ValueOf", "(internal/reflectlite.Value).Type", "(internal/reflectlite.Value).IsNil", "(internal/reflectlite.Value).Elem", "(internal/reflectlite.Value).Set"], unfollowed := true, recurses := true, named := ["skipper/api.ErrSize", "skipper/api.ErrMagic", "skipper/api.ErrHeader", "skipper/api.ErrEnd", "skipper/api.ErrRange", "skipper/api.ErrSum", "skipper/api.ErrToken", "errors.errorType"], apart := false, laid := [("errors.errorType", laid_errors_errorType), ("skipper/api.ErrSize", laid_skipper_api_ErrSize), ("skipper/api.ErrMagic", laid_skipper_api_ErrMagic), ("skipper/api.ErrHeader", laid_skipper_api_ErrHeader), ("skipper/api.ErrEnd", laid_skipper_api_ErrEnd), ("skipper/api.ErrRange", laid_skipper_api_ErrRange), ("skipper/api.ErrSum", laid_skipper_api_ErrSum), ("skipper/api.ErrToken", laid_skipper_api_ErrToken)], narrowed := true }
def LocalUptoSaid : Prop := localUptoRow.holds Tryd.pinned (OpenSpec.upto localSpec)

/-- 'skipperkeep.Made', WHERE WHAT IT READS IS OF BULK AT MOST 1048576: true; the input reads as it did. -/
def madeUptoRow : OpenClaim := { program := "ytafkpmjifgohcaadoor", sum := "23dd0ddb98aa6e3c555fb493bcc8dc4b5880cb4c80975d43c85a7c5f4aa32061", func := "skipper/skipperkeep.Made", spec := "made", inPlace := ["internal/reflectlite.TypeOf"], unfollowed := true, recurses := true, named := ["skipper/api.ErrSize", "skipper/api.ErrMagic", "skipper/api.ErrHeader", "skipper/api.ErrEnd", "skipper/api.ErrRange", "skipper/api.ErrSum", "skipper/api.ErrToken"], apart := false, laid := [("skipper/api.ErrSize", laid_skipper_api_ErrSize), ("skipper/api.ErrMagic", laid_skipper_api_ErrMagic), ("skipper/api.ErrHeader", laid_skipper_api_ErrHeader), ("skipper/api.ErrEnd", laid_skipper_api_ErrEnd), ("skipper/api.ErrRange", laid_skipper_api_ErrRange), ("skipper/api.ErrSum", laid_skipper_api_ErrSum), ("skipper/api.ErrToken", laid_skipper_api_ErrToken)], narrowed := true }
def MadeUptoSaid : Prop := madeUptoRow.holds Tryd.pinned (OpenSpec.upto madeSpec)

/-- 'skipperkeep.Wrong', WHERE WHAT IT READS IS OF BULK AT MOST 1048576: true; the input reads as it did. -/
def wrongUptoRow : OpenClaim := { program := "ytafkpmjifgohcaadoor", sum := "23dd0ddb98aa6e3c555fb493bcc8dc4b5880cb4c80975d43c85a7c5f4aa32061", func := "skipper/skipperkeep.Wrong", spec := "wrong", inPlace := ["internal/reflectlite.TypeOf", "internal/reflectlite.ValueOf", "(internal/reflectlite.Value).Type", "(internal/reflectlite.Value).IsNil", "(internal/reflectlite.Value).Elem", "(internal/reflectlite.Value).Set"], unfollowed := true, recurses := true, named := ["skipper/api.ErrSize", "skipper/api.ErrMagic", "skipper/api.ErrHeader", "skipper/api.ErrEnd", "skipper/api.ErrRange", "skipper/api.ErrSum", "skipper/api.ErrToken", "errors.errorType"], apart := false, laid := [("errors.errorType", laid_errors_errorType), ("skipper/api.ErrSize", laid_skipper_api_ErrSize), ("skipper/api.ErrMagic", laid_skipper_api_ErrMagic), ("skipper/api.ErrHeader", laid_skipper_api_ErrHeader), ("skipper/api.ErrEnd", laid_skipper_api_ErrEnd), ("skipper/api.ErrRange", laid_skipper_api_ErrRange), ("skipper/api.ErrSum", laid_skipper_api_ErrSum), ("skipper/api.ErrToken", laid_skipper_api_ErrToken)], narrowed := true }
def WrongUptoSaid : Prop := wrongUptoRow.holds Tryd.pinned (OpenSpec.upto wrongSpec)

/-- 'skipperlaw.Chunked', WHERE WHAT IT READS IS OF BULK AT MOST 1048576: true; the input reads as it did. -/
def chunkedUptoRow : OpenClaim := { program := "ytafkpmjifgohcaadoor", sum := "23dd0ddb98aa6e3c555fb493bcc8dc4b5880cb4c80975d43c85a7c5f4aa32061", func := "skipper/skipperlaw.Chunked", spec := "chunked", inPlace := ["internal/reflectlite.TypeOf"], unfollowed := true, recurses := true, named := ["skipper/api.ErrSize", "skipper/api.ErrMagic", "skipper/api.ErrHeader", "skipper/api.ErrEnd", "skipper/api.ErrSum", "skipper/api.ErrToken"], apart := false, laid := [("skipper/api.ErrSize", laid_skipper_api_ErrSize), ("skipper/api.ErrMagic", laid_skipper_api_ErrMagic), ("skipper/api.ErrHeader", laid_skipper_api_ErrHeader), ("skipper/api.ErrEnd", laid_skipper_api_ErrEnd), ("skipper/api.ErrSum", laid_skipper_api_ErrSum), ("skipper/api.ErrToken", laid_skipper_api_ErrToken)], narrowed := true }
def ChunkedUptoSaid : Prop := chunkedUptoRow.holds Tryd.pinned (OpenSpec.upto chunkedSpec)

/-- 'skipperkeep.Along', WHERE WHAT IT READS IS OF BULK AT MOST 1048576: true; the input reads as it did. -/
def alongUptoRow : OpenClaim := { program := "ytafkpmjifgohcaadoor", sum := "23dd0ddb98aa6e3c555fb493bcc8dc4b5880cb4c80975d43c85a7c5f4aa32061", func := "skipper/skipperkeep.Along", spec := "along", inPlace := ["internal/reflectlite.TypeOf"], unfollowed := true, recurses := true, named := ["skipper/api.ErrSize", "skipper/api.ErrMagic", "skipper/api.ErrHeader", "skipper/api.ErrEnd", "skipper/api.ErrRange", "skipper/api.ErrSum", "skipper/api.ErrToken"], apart := false, laid := [("skipper/api.ErrSize", laid_skipper_api_ErrSize), ("skipper/api.ErrMagic", laid_skipper_api_ErrMagic), ("skipper/api.ErrHeader", laid_skipper_api_ErrHeader), ("skipper/api.ErrEnd", laid_skipper_api_ErrEnd), ("skipper/api.ErrRange", laid_skipper_api_ErrRange), ("skipper/api.ErrSum", laid_skipper_api_ErrSum), ("skipper/api.ErrToken", laid_skipper_api_ErrToken)], narrowed := true }
def AlongUptoSaid : Prop := alongUptoRow.holds Tryd.pinned (OpenSpec.upto alongSpec)

end Rows
end Go.Proofs.YtafkpmjifgohcaaDoor
