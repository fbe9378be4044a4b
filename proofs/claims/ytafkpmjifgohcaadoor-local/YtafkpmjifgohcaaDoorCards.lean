/-
  DERIVED. GIVEN WITH THE SEED: THE CARDS: each row of YtafkpmjifgohcaaDoorRows.lean that lists a variable, with what it lists TIED to the program's text (the seventh form; the later family's looks); each row that meets fmt, with fmt's text TOLD by the authors' own Lean function (tested against real Go, not proved from fmt's source: count such statements apart). THE CARD IS WHAT COUNTS. Prove the row's statement (the work); the ties are given (YtafkpmjifgohcaaDoorTie.lean); close each card by the builder's one call (the guide's Derived/Test/ToyasCard.lean, 'card_holds'). Laid BY PROGRAM, IN A SANDBOX (cutbox-door.mjs). By AI agents, Wed Nov 11 2026. No macro, syntax, notation, axiom, sorry.
-/
import Derived.Test.YtafkpmjifgohcaaDoorRows
import GoSem.ClaimSeven
namespace Go.Proofs.YtafkpmjifgohcaaDoor
namespace Rows

/-- THE TIED CARD OF 'skipperlaw.Names'. -/
def namesCard : Claim7 := { stood := { row := namesRow, standIns := [], harness := (true, "b668beed40d54a53c7b8b6fde40e72dc43ff0b0fcd7a214ee058cad0a7bfe10d"), looks := true }, kinds := [], alts := [], laidByText := true, laidKinds := [.sentinel, .sentinel, .sentinel, .sentinel, .sentinel, .sentinel, .sentinel], laidTests := true, laidLooks := .later }
def NamesCardSaid : Prop := Claim7.holds Tryd.pinned (.plain (OpenSpec.ofChange namesSpec)) namesCard

/-- THE TIED CARD OF 'skipperkeep.Cut'. -/
def cutCard : Claim7 := { stood := { row := cutRow, standIns := [], harness := (true, "b668beed40d54a53c7b8b6fde40e72dc43ff0b0fcd7a214ee058cad0a7bfe10d"), looks := true }, kinds := [], alts := [], laidByText := true, laidKinds := [.sentinel, .sentinel, .sentinel, .sentinel, .sentinel, .sentinel, .sentinel], laidTests := true, laidLooks := .later }
def CutCardSaid : Prop := Claim7.holds Tryd.pinned (.plain (OpenSpec.ofChange cutSpec)) cutCard

/-- THE TIED CARD OF 'skipperkeep.Back'. -/
def backCard : Claim7 := { stood := { row := backRow, standIns := [], harness := (true, "b668beed40d54a53c7b8b6fde40e72dc43ff0b0fcd7a214ee058cad0a7bfe10d"), looks := true }, kinds := [], alts := [], laidByText := true, laidKinds := [.handle, .sentinel, .sentinel, .sentinel, .sentinel, .sentinel, .sentinel, .sentinel], laidTests := true, laidLooks := .later }
def BackCardSaid : Prop := Claim7.holds Tryd.pinned (.plain (OpenSpec.ofChange backSpec)) backCard

/-- THE TIED CARD OF 'skipperkeep.Small'. -/
def smallCard : Claim7 := { stood := { row := smallRow, standIns := [], harness := (true, "b668beed40d54a53c7b8b6fde40e72dc43ff0b0fcd7a214ee058cad0a7bfe10d"), looks := true }, kinds := [], alts := [], laidByText := true, laidKinds := [.sentinel, .sentinel, .sentinel, .sentinel, .sentinel, .sentinel, .sentinel], laidTests := true, laidLooks := .later }
def SmallCardSaid : Prop := Claim7.holds Tryd.pinned (.plain (OpenSpec.ofChange smallSpec)) smallCard

/-- THE TIED CARD OF 'skipperkeep.Local'. -/
def localCard : Claim7 := { stood := { row := localRow, standIns := [], harness := (true, "b668beed40d54a53c7b8b6fde40e72dc43ff0b0fcd7a214ee058cad0a7bfe10d"), looks := true }, kinds := [], alts := [], laidByText := true, laidKinds := [.handle, .sentinel, .sentinel, .sentinel, .sentinel, .sentinel, .sentinel, .sentinel], laidTests := true, laidLooks := .later }
def LocalCardSaid : Prop := Claim7.holds Tryd.pinned (.plain (OpenSpec.ofChange localSpec)) localCard

/-- THE TIED CARD OF 'skipperkeep.Made'. -/
def madeCard : Claim7 := { stood := { row := madeRow, standIns := [], harness := (true, "b668beed40d54a53c7b8b6fde40e72dc43ff0b0fcd7a214ee058cad0a7bfe10d"), looks := true }, kinds := [], alts := [], laidByText := true, laidKinds := [.sentinel, .sentinel, .sentinel, .sentinel, .sentinel, .sentinel, .sentinel], laidTests := true, laidLooks := .later }
def MadeCardSaid : Prop := Claim7.holds Tryd.pinned (.plain (OpenSpec.ofChange madeSpec)) madeCard

/-- THE TIED CARD OF 'skipperkeep.Wrong'. -/
def wrongCard : Claim7 := { stood := { row := wrongRow, standIns := [], harness := (true, "b668beed40d54a53c7b8b6fde40e72dc43ff0b0fcd7a214ee058cad0a7bfe10d"), looks := true }, kinds := [], alts := [], laidByText := true, laidKinds := [.handle, .sentinel, .sentinel, .sentinel, .sentinel, .sentinel, .sentinel, .sentinel], laidTests := true, laidLooks := .later }
def WrongCardSaid : Prop := Claim7.holds Tryd.pinned (.plain (OpenSpec.ofChange wrongSpec)) wrongCard

/-- THE TIED CARD OF 'skipperlaw.Chunked'. -/
def chunkedCard : Claim7 := { stood := { row := chunkedRow, standIns := [], harness := (true, "b668beed40d54a53c7b8b6fde40e72dc43ff0b0fcd7a214ee058cad0a7bfe10d"), looks := true }, kinds := [], alts := [], laidByText := true, laidKinds := [.sentinel, .sentinel, .sentinel, .sentinel, .sentinel, .sentinel], laidTests := true, laidLooks := .later }
def ChunkedCardSaid : Prop := Claim7.holds Tryd.pinned (.plain (OpenSpec.ofChange chunkedSpec)) chunkedCard

/-- THE TIED CARD OF 'skipperkeep.Along'. -/
def alongCard : Claim7 := { stood := { row := alongRow, standIns := [], harness := (true, "b668beed40d54a53c7b8b6fde40e72dc43ff0b0fcd7a214ee058cad0a7bfe10d"), looks := true }, kinds := [], alts := [], laidByText := true, laidKinds := [.sentinel, .sentinel, .sentinel, .sentinel, .sentinel, .sentinel, .sentinel], laidTests := true, laidLooks := .later }
def AlongCardSaid : Prop := Claim7.holds Tryd.pinned (.plain (OpenSpec.ofChange alongSpec)) alongCard

/-- THE SECOND FORM's CARD OF 'skipperlaw.Names'. -/
def namesUptoCard : Claim7 := { stood := { row := namesUptoRow, standIns := [], harness := (true, "b668beed40d54a53c7b8b6fde40e72dc43ff0b0fcd7a214ee058cad0a7bfe10d"), looks := true }, kinds := [], alts := [], laidByText := true, laidKinds := [.sentinel, .sentinel, .sentinel, .sentinel, .sentinel, .sentinel, .sentinel], laidTests := true, laidLooks := .later }
def NamesUptoCardSaid : Prop := Claim7.holds Tryd.pinned (.plain (OpenSpec.upto namesSpec)) namesUptoCard

/-- THE SECOND FORM's CARD OF 'skipperkeep.Cut'. -/
def cutUptoCard : Claim7 := { stood := { row := cutUptoRow, standIns := [], harness := (true, "b668beed40d54a53c7b8b6fde40e72dc43ff0b0fcd7a214ee058cad0a7bfe10d"), looks := true }, kinds := [], alts := [], laidByText := true, laidKinds := [.sentinel, .sentinel, .sentinel, .sentinel, .sentinel, .sentinel, .sentinel], laidTests := true, laidLooks := .later }
def CutUptoCardSaid : Prop := Claim7.holds Tryd.pinned (.plain (OpenSpec.upto cutSpec)) cutUptoCard

/-- THE SECOND FORM's CARD OF 'skipperkeep.Back'. -/
def backUptoCard : Claim7 := { stood := { row := backUptoRow, standIns := [], harness := (true, "b668beed40d54a53c7b8b6fde40e72dc43ff0b0fcd7a214ee058cad0a7bfe10d"), looks := true }, kinds := [], alts := [], laidByText := true, laidKinds := [.handle, .sentinel, .sentinel, .sentinel, .sentinel, .sentinel, .sentinel, .sentinel], laidTests := true, laidLooks := .later }
def BackUptoCardSaid : Prop := Claim7.holds Tryd.pinned (.plain (OpenSpec.upto backSpec)) backUptoCard

/-- THE SECOND FORM's CARD OF 'skipperkeep.Small'. -/
def smallUptoCard : Claim7 := { stood := { row := smallUptoRow, standIns := [], harness := (true, "b668beed40d54a53c7b8b6fde40e72dc43ff0b0fcd7a214ee058cad0a7bfe10d"), looks := true }, kinds := [], alts := [], laidByText := true, laidKinds := [.sentinel, .sentinel, .sentinel, .sentinel, .sentinel, .sentinel, .sentinel], laidTests := true, laidLooks := .later }
def SmallUptoCardSaid : Prop := Claim7.holds Tryd.pinned (.plain (OpenSpec.upto smallSpec)) smallUptoCard

/-- THE SECOND FORM's CARD OF 'skipperkeep.Local'. -/
def localUptoCard : Claim7 := { stood := { row := localUptoRow, standIns := [], harness := (true, "b668beed40d54a53c7b8b6fde40e72dc43ff0b0fcd7a214ee058cad0a7bfe10d"), looks := true }, kinds := [], alts := [], laidByText := true, laidKinds := [.handle, .sentinel, .sentinel, .sentinel, .sentinel, .sentinel, .sentinel, .sentinel], laidTests := true, laidLooks := .later }
def LocalUptoCardSaid : Prop := Claim7.holds Tryd.pinned (.plain (OpenSpec.upto localSpec)) localUptoCard

/-- THE SECOND FORM's CARD OF 'skipperkeep.Made'. -/
def madeUptoCard : Claim7 := { stood := { row := madeUptoRow, standIns := [], harness := (true, "b668beed40d54a53c7b8b6fde40e72dc43ff0b0fcd7a214ee058cad0a7bfe10d"), looks := true }, kinds := [], alts := [], laidByText := true, laidKinds := [.sentinel, .sentinel, .sentinel, .sentinel, .sentinel, .sentinel, .sentinel], laidTests := true, laidLooks := .later }
def MadeUptoCardSaid : Prop := Claim7.holds Tryd.pinned (.plain (OpenSpec.upto madeSpec)) madeUptoCard

/-- THE SECOND FORM's CARD OF 'skipperkeep.Wrong'. -/
def wrongUptoCard : Claim7 := { stood := { row := wrongUptoRow, standIns := [], harness := (true, "b668beed40d54a53c7b8b6fde40e72dc43ff0b0fcd7a214ee058cad0a7bfe10d"), looks := true }, kinds := [], alts := [], laidByText := true, laidKinds := [.handle, .sentinel, .sentinel, .sentinel, .sentinel, .sentinel, .sentinel, .sentinel], laidTests := true, laidLooks := .later }
def WrongUptoCardSaid : Prop := Claim7.holds Tryd.pinned (.plain (OpenSpec.upto wrongSpec)) wrongUptoCard

/-- THE SECOND FORM's CARD OF 'skipperlaw.Chunked'. -/
def chunkedUptoCard : Claim7 := { stood := { row := chunkedUptoRow, standIns := [], harness := (true, "b668beed40d54a53c7b8b6fde40e72dc43ff0b0fcd7a214ee058cad0a7bfe10d"), looks := true }, kinds := [], alts := [], laidByText := true, laidKinds := [.sentinel, .sentinel, .sentinel, .sentinel, .sentinel, .sentinel], laidTests := true, laidLooks := .later }
def ChunkedUptoCardSaid : Prop := Claim7.holds Tryd.pinned (.plain (OpenSpec.upto chunkedSpec)) chunkedUptoCard

/-- THE SECOND FORM's CARD OF 'skipperkeep.Along'. -/
def alongUptoCard : Claim7 := { stood := { row := alongUptoRow, standIns := [], harness := (true, "b668beed40d54a53c7b8b6fde40e72dc43ff0b0fcd7a214ee058cad0a7bfe10d"), looks := true }, kinds := [], alts := [], laidByText := true, laidKinds := [.sentinel, .sentinel, .sentinel, .sentinel, .sentinel, .sentinel, .sentinel], laidTests := true, laidLooks := .later }
def AlongUptoCardSaid : Prop := Claim7.holds Tryd.pinned (.plain (OpenSpec.upto alongSpec)) alongUptoCard
end Rows
end Go.Proofs.YtafkpmjifgohcaaDoor
