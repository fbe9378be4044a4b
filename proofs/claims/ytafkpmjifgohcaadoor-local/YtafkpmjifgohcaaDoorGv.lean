/- Which package-level variable holds the error of a number. -/
import Derived.Test.YtafkpmjifgohcaaDoorPure
namespace Go.Proofs.YtafkpmjifgohcaaDoor

def gv : Nat → Nat
  | 0 => 0
  | 1 => 1
  | 2 => 2
  | 3 => 3
  | 4 => 4
  | 5 => 5
  | _ => 6
theorem gv_lt (i : Nat) : gv i < 7 := by
  unfold gv
  split <;> decide
end Go.Proofs.YtafkpmjifgohcaaDoor
