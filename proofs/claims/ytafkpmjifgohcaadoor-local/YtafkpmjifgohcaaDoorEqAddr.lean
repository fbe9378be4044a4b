/- Errors that are compared: pointers to cells. -/
import Derived.Test.YtafkpmjifgohcaaDoorRows
import Derived.WalkKit
import Derived.WalkSpells
import Derived.WalkLawsBesides
import Derived.LaidEql
import Derived.Deep.QuietTactic
import Derived.BigQuiet
import Derived.Stop.LaidErr
namespace Go.Proofs.YtafkpmjifgohcaaDoor
open Go.RowKit

theorem Tryd.compErr : (Tryd.prog.info? 170).map (·.comparable) = some true := by kernel_rfl
theorem Tryd.sizeErr : (Tryd.prog.info? 189).map (·.size) = some 1 := by kernel_rfl

def errAt (a : Addr) : Value := .iface 170 (.pointer (some a))

theorem eq_other {W : World} {a b : Addr} {ca cb : Array Value} {ta tb : TypeId} (hne : a ≠ b) (ha : W.heap[a.block]? = some (.cells ca ta (0, 0))) (hb : W.heap[b.block]? = some (.cells cb tb (0, 0))) :
    (binOp .eql 23 (.iface 170 (.pointer (some a))) (.iface 170 (.pointer (some b)))).run Tryd.prog W = .ok (.bool false) W := by
  obtain ⟨i, hi, hcmp⟩ := Option.map_eq_some_iff.1 Tryd.compErr
  obtain ⟨j, hj, hjs⟩ := Option.map_eq_some_iff.1 Tryd.sizeErr
  exact run_eql_iface_ptr_other W Tryd.underlying23 Tryd.underlying170 hi hcmp hj (by rw [hjs]; decide) hne ha hb
theorem eq_same {W : World} (a : Addr) :
    (binOp .eql 23 (.iface 170 (.pointer (some a))) (.iface 170 (.pointer (some a)))).run Tryd.prog W = .ok (.bool true) W := by
  obtain ⟨i, hi, hcmp⟩ := Option.map_eq_some_iff.1 Tryd.compErr
  obtain ⟨j, hj, _⟩ := Option.map_eq_some_iff.1 Tryd.sizeErr
  exact run_eql_iface_ptr_same W a Tryd.underlying23 Tryd.underlying170 hi hcmp hj

end Go.Proofs.YtafkpmjifgohcaaDoor
