/-
  NARROWER THAN 'FOR EVERY INPUT', by the rows' own cells (each row's printed sentence says how): Packs: laid · Opens: laid · All: laid.
  DERIVED. THE GIVEN ROWS OF THIS SEAT. 3 by the template 'for every input the law returns true; each argument reads behind the call as it read before'; 0 by the template 'total and deterministic' (their statements: YtafkpmjifgohcaaGreatDoorTotals.lean).
  GIVEN WITH THE SEED: the statements are not yours to turn. If you find one false, say at which input.
  Laid BY PROGRAM, IN A SANDBOX (cutbox-rows.mjs): the forced cells as the released guide's own fill.sh prints them over the translation b932ac1ecded9ea5… (all of the seat's roots in one cut). By AI agents, Wed Nov 11 2026. No macro, syntax, notation, axiom, sorry.
-/
import Derived.Test.YtafkpmjifgohcaaGreatDoorChecked
import GoSem.Claim
import GoSem.ClaimJoined
import GoSem.ClaimMapViews
import Derived.JoinedTies
import Derived.KernelRfl
namespace Go.Proofs.YtafkpmjifgohcaaGreatDoor
/- THE CELL 'sum', in the pinned program and in every row, IS THE sha256 OF THE DUMP (.gsa) THAT YtafkpmjifgohcaaGreatDoorProg.lean LOADS. Nothing in Lean hashes anything: it is a label: what it is worth is what the hold of that sum in a sandbox is worth. -/
noncomputable def Tryz.pinned : Pinned := { name := "ytafkpmjifgohcaagreatdoor", sum := "b932ac1ecded9ea550147b7fc15301062cd5508df9fce6f05785a0a54a4a8002", checked := Tryz.checked }
namespace Rows
def none {H : Type} : Left H := { results := [], args := [] }

/- WHAT THE LISTED PACKAGE-LEVEL VARIABLES READ AS WHEN THE CALL BEGINS. Each datum BY PROGRAM (the guide's laid-datum.mjs) off the statement by which the dump's own 'gosem.cut.vars' lays the variable. In a bare row this is a premise. The card (YtafkpmjifgohcaaGreatDoorCards.lean) ties it to the program's text. -/
def laid_errors_errorType {H : Type} : DataW H := .iface "internal/reflectlite.rtype" (.agg [.ptr (.lit (.string [101, 114, 114, 111, 114]))])
def laid_skipper_api_ErrSize {H : Type} : DataW H := .iface "*errors.errorString" (.ptr (.agg [.lit (.string [115, 107, 105, 112, 112, 101, 114, 58, 32, 115, 105, 122, 101])]))
def laid_skipper_api_ErrMagic {H : Type} : DataW H := .iface "*errors.errorString" (.ptr (.agg [.lit (.string [115, 107, 105, 112, 112, 101, 114, 58, 32, 110, 111, 116, 32, 97, 32, 102, 105, 108, 101, 32, 111, 102, 32, 111, 117, 114, 115])]))
def laid_skipper_api_ErrHeader {H : Type} : DataW H := .iface "*errors.errorString" (.ptr (.agg [.lit (.string [115, 107, 105, 112, 112, 101, 114, 58, 32, 104, 101, 97, 100, 101, 114])]))
def laid_skipper_api_ErrEnd {H : Type} : DataW H := .iface "*errors.errorString" (.ptr (.agg [.lit (.string [115, 107, 105, 112, 112, 101, 114, 58, 32, 116, 104, 101, 32, 102, 105, 108, 101, 32, 101, 110, 100, 115, 32, 116, 111, 111, 32, 101, 97, 114, 108, 121])]))
def laid_skipper_api_ErrRange {H : Type} : DataW H := .iface "*errors.errorString" (.ptr (.agg [.lit (.string [115, 107, 105, 112, 112, 101, 114, 58, 32, 114, 97, 110, 103, 101])]))
def laid_skipper_api_ErrSum {H : Type} : DataW H := .iface "*errors.errorString" (.ptr (.agg [.lit (.string [115, 107, 105, 112, 112, 101, 114, 58, 32, 115, 117, 109])]))
def laid_skipper_api_ErrToken {H : Type} : DataW H := .iface "*errors.errorString" (.ptr (.agg [.lit (.string [115, 107, 105, 112, 112, 101, 114, 58, 32, 116, 111, 107, 101, 110])]))

/-- 'skipperlaw.Packs': WHATEVER THE INPUT: true; the input reads as it did. -/
def packsSpec : ChangeSpec := { name := "packs", fn := fun _ => fun
  | [d] => { results := [.lit (.bool true)], args := [d] }
  | _ => none }
def packsRow : OpenClaim := { program := "ytafkpmjifgohcaagreatdoor", sum := "b932ac1ecded9ea550147b7fc15301062cd5508df9fce6f05785a0a54a4a8002", func := "skipper/skipperlaw.Packs", spec := "packs", inPlace := ["internal/reflectlite.TypeOf", "internal/reflectlite.ValueOf", "(internal/reflectlite.Value).Type", "(internal/reflectlite.Value).IsNil", "(internal/reflectlite.Value).Elem", "(internal/reflectlite.Value).Set"], unfollowed := true, recurses := true, named := ["skipper/api.ErrSize", "skipper/api.ErrMagic", "skipper/api.ErrHeader", "skipper/api.ErrEnd", "skipper/api.ErrRange", "skipper/api.ErrSum", "skipper/api.ErrToken", "errors.errorType"], apart := false, laid := [("errors.errorType", laid_errors_errorType), ("skipper/api.ErrSize", laid_skipper_api_ErrSize), ("skipper/api.ErrMagic", laid_skipper_api_ErrMagic), ("skipper/api.ErrHeader", laid_skipper_api_ErrHeader), ("skipper/api.ErrEnd", laid_skipper_api_ErrEnd), ("skipper/api.ErrRange", laid_skipper_api_ErrRange), ("skipper/api.ErrSum", laid_skipper_api_ErrSum), ("skipper/api.ErrToken", laid_skipper_api_ErrToken)] }
def PacksSaid : Prop := packsRow.holds Tryz.pinned (OpenSpec.ofChange packsSpec)

/-- ITS FALSE NEIGHBOUR: 'it returns false'. Refute it at one input. -/
def packsWrong : ChangeSpec := { name := "packs", fn := fun _ => fun
  | [d] => { results := [.lit (.bool false)], args := [d] }
  | _ => none }
def PacksWrongFalsely : Prop := packsRow.holds Tryz.pinned (OpenSpec.ofChange packsWrong)

/-- 'skipperlaw.Opens': WHATEVER THE INPUT: true; the input reads as it did. -/
def opensSpec : ChangeSpec := { name := "opens", fn := fun _ => fun
  | [d] => { results := [.lit (.bool true)], args := [d] }
  | _ => none }
def opensRow : OpenClaim := { program := "ytafkpmjifgohcaagreatdoor", sum := "b932ac1ecded9ea550147b7fc15301062cd5508df9fce6f05785a0a54a4a8002", func := "skipper/skipperlaw.Opens", spec := "opens", inPlace := ["internal/reflectlite.TypeOf", "internal/reflectlite.ValueOf", "(internal/reflectlite.Value).Type", "(internal/reflectlite.Value).IsNil", "(internal/reflectlite.Value).Elem", "(internal/reflectlite.Value).Set"], unfollowed := true, recurses := true, named := ["skipper/api.ErrSize", "skipper/api.ErrMagic", "skipper/api.ErrHeader", "skipper/api.ErrEnd", "skipper/api.ErrRange", "skipper/api.ErrSum", "skipper/api.ErrToken", "errors.errorType"], apart := false, laid := [("errors.errorType", laid_errors_errorType), ("skipper/api.ErrSize", laid_skipper_api_ErrSize), ("skipper/api.ErrMagic", laid_skipper_api_ErrMagic), ("skipper/api.ErrHeader", laid_skipper_api_ErrHeader), ("skipper/api.ErrEnd", laid_skipper_api_ErrEnd), ("skipper/api.ErrRange", laid_skipper_api_ErrRange), ("skipper/api.ErrSum", laid_skipper_api_ErrSum), ("skipper/api.ErrToken", laid_skipper_api_ErrToken)] }
def OpensSaid : Prop := opensRow.holds Tryz.pinned (OpenSpec.ofChange opensSpec)

/-- ITS FALSE NEIGHBOUR: 'it returns false'. Refute it at one input. -/
def opensWrong : ChangeSpec := { name := "opens", fn := fun _ => fun
  | [d] => { results := [.lit (.bool false)], args := [d] }
  | _ => none }
def OpensWrongFalsely : Prop := opensRow.holds Tryz.pinned (OpenSpec.ofChange opensWrong)

/-- 'skipperlaw.All': WHATEVER THE INPUT: true; the input reads as it did. -/
def allSpec : ChangeSpec := { name := "all", fn := fun _ => fun
  | [d] => { results := [.lit (.bool true)], args := [d] }
  | _ => none }
def allRow : OpenClaim := { program := "ytafkpmjifgohcaagreatdoor", sum := "b932ac1ecded9ea550147b7fc15301062cd5508df9fce6f05785a0a54a4a8002", func := "skipper/skipperlaw.All", spec := "all", inPlace := ["internal/reflectlite.TypeOf", "internal/reflectlite.ValueOf", "(internal/reflectlite.Value).Type", "(internal/reflectlite.Value).IsNil", "(internal/reflectlite.Value).Elem", "(internal/reflectlite.Value).Set"], unfollowed := true, recurses := true, named := ["skipper/api.ErrSize", "skipper/api.ErrMagic", "skipper/api.ErrHeader", "skipper/api.ErrEnd", "skipper/api.ErrRange", "skipper/api.ErrSum", "skipper/api.ErrToken", "errors.errorType"], apart := false, laid := [("errors.errorType", laid_errors_errorType), ("skipper/api.ErrSize", laid_skipper_api_ErrSize), ("skipper/api.ErrMagic", laid_skipper_api_ErrMagic), ("skipper/api.ErrHeader", laid_skipper_api_ErrHeader), ("skipper/api.ErrEnd", laid_skipper_api_ErrEnd), ("skipper/api.ErrRange", laid_skipper_api_ErrRange), ("skipper/api.ErrSum", laid_skipper_api_ErrSum), ("skipper/api.ErrToken", laid_skipper_api_ErrToken)] }
def AllSaid : Prop := allRow.holds Tryz.pinned (OpenSpec.ofChange allSpec)

/-- ITS FALSE NEIGHBOUR: 'it returns false'. Refute it at one input. -/
def allWrong : ChangeSpec := { name := "all", fn := fun _ => fun
  | [d] => { results := [.lit (.bool false)], args := [d] }
  | _ => none }
def AllWrongFalsely : Prop := allRow.holds Tryz.pinned (OpenSpec.ofChange allWrong)

/- THE SECOND FORM. 'bulk': how many values and letters a reading holds, each counted each time it is reached (what is shared counts as often as it is met; a slice's spare places count too). A statement '..UptoSaid' is the law's where the arguments, and the package variables that the reading takes, are together of bulk at most 1048576: NARROWER than '..Said'. Prove '..Said' where nothing that the law and all that it calls make is longer than what came in: it says more and counts as full. Else prove '..UptoSaid'. A law counts once. -/
mutual
def uptoBulk {H : Type} : DataW H → Nat
  | .lit (.string bytes) => bytes.length + 1
  | .lit _ => 1
  | .nil => 1
  | .ptr d => uptoBulk d + 1
  | .slice elems spare => uptoBulkAll elems + uptoBulkAll spare + 1
  | .agg parts => uptoBulkAll parts + 1
  | .iface _ d => uptoBulk d + 1
  | .map entries => uptoBulkEntries entries + 1
  | .held _ => 1
def uptoBulkAll {H : Type} : List (DataW H) → Nat
  | [] => 0
  | d :: r => uptoBulk d + uptoBulkAll r
def uptoBulkEntries {H : Type} : List (Lit × DataW H) → Nat
  | [] => 0
  | x :: r => uptoBulkEntry x + uptoBulkEntries r
def uptoBulkEntry {H : Type} : Lit × DataW H → Nat
  | (.string bytes, d) => bytes.length + uptoBulk d + 1
  | (_, d) => uptoBulk d + 1
 end
def uptoSmall : (H : Type) → List (DataW H) → Bool := fun _ ds => decide (uptoBulkAll ds ≤ 1048576)
def OpenSpec.upto (s : _root_.Go.ChangeSpec) : _root_.Go.OpenSpec := { _root_.Go.OpenSpec.ofChange s with cond := some uptoSmall }

/-- 'skipperlaw.Packs', WHERE WHAT IT READS IS OF BULK AT MOST 1048576: true; the input reads as it did. -/
def packsUptoRow : OpenClaim := { program := "ytafkpmjifgohcaagreatdoor", sum := "b932ac1ecded9ea550147b7fc15301062cd5508df9fce6f05785a0a54a4a8002", func := "skipper/skipperlaw.Packs", spec := "packs", inPlace := ["internal/reflectlite.TypeOf", "internal/reflectlite.ValueOf", "(internal/reflectlite.Value).Type", "(internal/reflectlite.Value).IsNil", "(internal/reflectlite.Value).Elem", "(internal/reflectlite.Value).Set"], unfollowed := true, recurses := true, named := ["skipper/api.ErrSize", "skipper/api.ErrMagic", "skipper/api.ErrHeader", "skipper/api.ErrEnd", "skipper/api.ErrRange", "skipper/api.ErrSum", "skipper/api.ErrToken", "errors.errorType"], apart := false, laid := [("errors.errorType", laid_errors_errorType), ("skipper/api.ErrSize", laid_skipper_api_ErrSize), ("skipper/api.ErrMagic", laid_skipper_api_ErrMagic), ("skipper/api.ErrHeader", laid_skipper_api_ErrHeader), ("skipper/api.ErrEnd", laid_skipper_api_ErrEnd), ("skipper/api.ErrRange", laid_skipper_api_ErrRange), ("skipper/api.ErrSum", laid_skipper_api_ErrSum), ("skipper/api.ErrToken", laid_skipper_api_ErrToken)], narrowed := true }
def PacksUptoSaid : Prop := packsUptoRow.holds Tryz.pinned (OpenSpec.upto packsSpec)

/-- 'skipperlaw.Opens', WHERE WHAT IT READS IS OF BULK AT MOST 1048576: true; the input reads as it did. -/
def opensUptoRow : OpenClaim := { program := "ytafkpmjifgohcaagreatdoor", sum := "b932ac1ecded9ea550147b7fc15301062cd5508df9fce6f05785a0a54a4a8002", func := "skipper/skipperlaw.Opens", spec := "opens", inPlace := ["internal/reflectlite.TypeOf", "internal/reflectlite.ValueOf", "(internal/reflectlite.Value).Type", "(internal/reflectlite.Value).IsNil", "(internal/reflectlite.Value).Elem", "(internal/reflectlite.Value).Set"], unfollowed := true, recurses := true, named := ["skipper/api.ErrSize", "skipper/api.ErrMagic", "skipper/api.ErrHeader", "skipper/api.ErrEnd", "skipper/api.ErrRange", "skipper/api.ErrSum", "skipper/api.ErrToken", "errors.errorType"], apart := false, laid := [("errors.errorType", laid_errors_errorType), ("skipper/api.ErrSize", laid_skipper_api_ErrSize), ("skipper/api.ErrMagic", laid_skipper_api_ErrMagic), ("skipper/api.ErrHeader", laid_skipper_api_ErrHeader), ("skipper/api.ErrEnd", laid_skipper_api_ErrEnd), ("skipper/api.ErrRange", laid_skipper_api_ErrRange), ("skipper/api.ErrSum", laid_skipper_api_ErrSum), ("skipper/api.ErrToken", laid_skipper_api_ErrToken)], narrowed := true }
def OpensUptoSaid : Prop := opensUptoRow.holds Tryz.pinned (OpenSpec.upto opensSpec)

/-- 'skipperlaw.All', WHERE WHAT IT READS IS OF BULK AT MOST 1048576: true; the input reads as it did. -/
def allUptoRow : OpenClaim := { program := "ytafkpmjifgohcaagreatdoor", sum := "b932ac1ecded9ea550147b7fc15301062cd5508df9fce6f05785a0a54a4a8002", func := "skipper/skipperlaw.All", spec := "all", inPlace := ["internal/reflectlite.TypeOf", "internal/reflectlite.ValueOf", "(internal/reflectlite.Value).Type", "(internal/reflectlite.Value).IsNil", "(internal/reflectlite.Value).Elem", "(internal/reflectlite.Value).Set"], unfollowed := true, recurses := true, named := ["skipper/api.ErrSize", "skipper/api.ErrMagic", "skipper/api.ErrHeader", "skipper/api.ErrEnd", "skipper/api.ErrRange", "skipper/api.ErrSum", "skipper/api.ErrToken", "errors.errorType"], apart := false, laid := [("errors.errorType", laid_errors_errorType), ("skipper/api.ErrSize", laid_skipper_api_ErrSize), ("skipper/api.ErrMagic", laid_skipper_api_ErrMagic), ("skipper/api.ErrHeader", laid_skipper_api_ErrHeader), ("skipper/api.ErrEnd", laid_skipper_api_ErrEnd), ("skipper/api.ErrRange", laid_skipper_api_ErrRange), ("skipper/api.ErrSum", laid_skipper_api_ErrSum), ("skipper/api.ErrToken", laid_skipper_api_ErrToken)], narrowed := true }
def AllUptoSaid : Prop := allUptoRow.holds Tryz.pinned (OpenSpec.upto allSpec)

end Rows
end Go.Proofs.YtafkpmjifgohcaaGreatDoor
