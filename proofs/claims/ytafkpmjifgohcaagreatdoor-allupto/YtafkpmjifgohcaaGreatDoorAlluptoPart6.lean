/- Which package-level variable holds the error of a number. -/
import Derived.Test.YtafkpmjifgohcaaGreatDoorPure
namespace Go.Proofs.YtafkpmjifgohcaaGreatDoor

def gv : Nat → Nat
  | 0 => 3
  | 1 => 4
  | 2 => 5
  | 3 => 6
  | 4 => 0
  | 5 => 1
  | _ => 2
theorem gv_lt (i : Nat) : gv i < 7 := by
  unfold gv
  split <;> decide
end Go.Proofs.YtafkpmjifgohcaaGreatDoor
