/- What the row's list of variables gives, and a world that meets it. -/
import Derived.Test.YtafkpmjifgohcaaDoorRows
import Derived.Test.YtafkpmjifgohcaaDoorLocalPart8
import Derived.LaidMore
import Derived.Stop.Joined
import Derived.Deep.DeepHandedRow
import Derived.Deep.DeepWitnessRowRef
namespace Go.Proofs.YtafkpmjifgohcaaDoor
open Go.ChangeShapes Go.WideShapes Go.ChangeAt Go.RowKit

theorem ownP : ownKnob Tryd.prog.godebug = none := by kernel_rfl

def eightLaid : List (String × DataW Unit) := ("errors.errorType", Rows.laid_errors_errorType) :: sevenLaid

theorem sent_of_eight {W : World} (h : laidMetH Tryd.prog eightLaid W) : ∃ A, Sent W A := by
  have h' : laidMet Tryd.prog sevenLaid W ∧ handlesMet Tryd.prog [("errors.errorType", Rows.laid_errors_errorType)] W := h
  exact sent_of_laid h'.1

theorem Sent.b {W : World} {A : Nat → Addr} (h : Sent W A) : SentB W A W.heap.size :=
  ⟨h, by
    have h0 := cell_lt (h.cell 0 (by decide))
    have h1 := cell_lt (h.cell 1 (by decide))
    have h2 := cell_lt (h.cell 2 (by decide))
    have h3 := cell_lt (h.cell 3 (by decide))
    have h4 := cell_lt (h.cell 4 (by decide))
    have h5 := cell_lt (h.cell 5 (by decide))
    have h6 := cell_lt (h.cell 6 (by decide))
    simp only [gv] at h0 h1 h2 h3 h4 h5 h6
    omega, fun i hi => by
    obtain ⟨c, t, e⟩ := h.plain i hi
    rcases Nat.lt_or_ge (A i).block W.heap.size with h' | h'
    · exact h'
    · simp [Array.getElem?_eq_none h'] at e⟩

/-- The door's own heap meets the condition. -/
theorem door_eight (os : Os) (args : Array Value) : laidMetH Tryd.prog eightLaid ((World.doorLaid Tryd.prog 400 os).forCall (fun _ _ => 0) ⟨#[], args, []⟩).memory :=
  laidMetH_of_parts3 (fuel := 8) (laidMet_of_run' 8 (by kernel_rfl) (by kernel_rfl)) (by kernel_rfl) (by kernel_rfl)
/-- And the shorter one. -/
theorem door_seven (os : Os) (args : Array Value) : laidMetH Tryd.prog sevenLaid ((World.doorLaid Tryd.prog 400 os).forCall (fun _ _ => 0) ⟨#[], args, []⟩).memory :=
  laidMetH_of_parts3 (fuel := 8) (laidMet_of_run' 8 (by kernel_rfl) (by kernel_rfl)) (by kernel_rfl) (by kernel_rfl)

end Go.Proofs.YtafkpmjifgohcaaDoor
