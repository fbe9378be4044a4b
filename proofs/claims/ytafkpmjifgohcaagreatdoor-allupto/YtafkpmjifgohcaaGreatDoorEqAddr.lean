/- Errors that are compared: pointers to cells. -/
import Derived.Test.YtafkpmjifgohcaaGreatDoorRows
import Derived.WalkKit
import Derived.WalkSpells
import Derived.WalkLawsBesides
import Derived.LaidEql
import Derived.Deep.QuietTactic
import Derived.BigQuiet
import Derived.Stop.LaidErr
namespace Go.Proofs.YtafkpmjifgohcaaGreatDoor
open Go.RowKit

theorem Tryz.compErr : (Tryz.prog.info? 175).map (·.comparable) = some true := by kernel_rfl
theorem Tryz.sizeErr : (Tryz.prog.info? 194).map (·.size) = some 1 := by kernel_rfl

def errAt (a : Addr) : Value := .iface 175 (.pointer (some a))

theorem eq_other {W : World} {a b : Addr} {ca cb : Array Value} {ta tb : TypeId} (hne : a ≠ b) (ha : W.heap[a.block]? = some (.cells ca ta (0, 0))) (hb : W.heap[b.block]? = some (.cells cb tb (0, 0))) :
    (binOp .eql 53 (.iface 175 (.pointer (some a))) (.iface 175 (.pointer (some b)))).run Tryz.prog W = .ok (.bool false) W := by
  obtain ⟨i, hi, hcmp⟩ := Option.map_eq_some_iff.1 Tryz.compErr
  obtain ⟨j, hj, hjs⟩ := Option.map_eq_some_iff.1 Tryz.sizeErr
  exact run_eql_iface_ptr_other W Tryz.underlying53 Tryz.underlying175 hi hcmp hj (by rw [hjs]; decide) hne ha hb
theorem eq_same {W : World} (a : Addr) :
    (binOp .eql 53 (.iface 175 (.pointer (some a))) (.iface 175 (.pointer (some a)))).run Tryz.prog W = .ok (.bool true) W := by
  obtain ⟨i, hi, hcmp⟩ := Option.map_eq_some_iff.1 Tryz.compErr
  obtain ⟨j, hj, _⟩ := Option.map_eq_some_iff.1 Tryz.sizeErr
  exact run_eql_iface_ptr_same W a Tryz.underlying53 Tryz.underlying175 hi hcmp hj

end Go.Proofs.YtafkpmjifgohcaaGreatDoor
