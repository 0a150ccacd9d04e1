/-
  DERIVED. GIVEN WITH THE SEED: THE CARDS: each row of YtnfhpdbbfejioaaGreatDoorRows.lean that lists a variable, with what it lists TIED to the program's text (the seventh form; the later family's looks); each row that meets fmt, with fmt's text TOLD by the authors' own Lean function (tested against real Go, not proved from fmt's source: count such statements apart). THE CARD IS WHAT COUNTS. Prove the row's statement (the work); the ties are given (YtnfhpdbbfejioaaGreatDoorTie.lean); close each card by the builder's one call (the guide's Derived/Test/ToyasCard.lean, 'card_holds'). Laid BY PROGRAM, IN A SANDBOX (cutbox-door.mjs). By AI agents, Wed Nov 11 2026. No macro, syntax, notation, axiom, sorry.
-/
import Derived.Test.YtnfhpdbbfejioaaGreatDoorRows
import GoSem.ClaimSeven
namespace Go.Proofs.YtnfhpdbbfejioaaGreatDoor
namespace Rows

/-- THE TIED CARD OF 'bloomerykeep.RunFuel'. -/
def runFuelCard : Claim7 := { stood := { row := runFuelRow, standIns := [], harness := (true, "99489c62abd01a6948009961e7f19ebb585607cde6b8319f79fb5a7a43a0fbc8"), looks := true }, kinds := [], alts := [], laidByText := true, laidKinds := [.data, .data, .data, .data, .sentinel, .sentinel, .data, .data, .pinned], laidTests := true, laidLooks := .later }
def RunFuelCardSaid : Prop := Claim7.holds Tryz.pinned (.plain (OpenSpec.ofChange runFuelSpec)) runFuelCard

/-- THE TIED CARD OF 'bloomerykeep.RunPrinted'. -/
def runPrintedCard : Claim7 := { stood := { row := runPrintedRow, standIns := [], harness := (true, "99489c62abd01a6948009961e7f19ebb585607cde6b8319f79fb5a7a43a0fbc8"), looks := true }, kinds := [], alts := [], laidByText := true, laidKinds := [.data, .data, .data, .data, .sentinel, .sentinel, .data, .data, .pinned], laidTests := true, laidLooks := .later }
def RunPrintedCardSaid : Prop := Claim7.holds Tryz.pinned (.plain (OpenSpec.ofChange runPrintedSpec)) runPrintedCard

/-- THE TIED CARD OF 'bloomerykeep.RunTurns'. -/
def runTurnsCard : Claim7 := { stood := { row := runTurnsRow, standIns := [], harness := (true, "99489c62abd01a6948009961e7f19ebb585607cde6b8319f79fb5a7a43a0fbc8"), looks := true }, kinds := [], alts := [], laidByText := true, laidKinds := [.data, .data, .data, .data, .sentinel, .sentinel, .data, .data, .pinned], laidTests := true, laidLooks := .later }
def RunTurnsCardSaid : Prop := Claim7.holds Tryz.pinned (.plain (OpenSpec.ofChange runTurnsSpec)) runTurnsCard

/-- THE TIED CARD OF 'bloomerykeep.MidSame'. -/
def midSameCard : Claim7 := { stood := { row := midSameRow, standIns := [], harness := (true, "99489c62abd01a6948009961e7f19ebb585607cde6b8319f79fb5a7a43a0fbc8"), looks := true }, kinds := [], alts := [], laidByText := true, laidKinds := [.data, .data, .data, .data, .handle, .data, .data, .sentinel, .sentinel, .data, .data, .pinned], laidTests := true, laidLooks := .later }
def MidSameCardSaid : Prop := Claim7.holds Tryz.pinned (.plain (OpenSpec.ofChange midSameSpec)) midSameCard

/-- THE TIED CARD OF 'bloomerykeep.MidFuel'. -/
def midFuelCard : Claim7 := { stood := { row := midFuelRow, standIns := [], harness := (true, "99489c62abd01a6948009961e7f19ebb585607cde6b8319f79fb5a7a43a0fbc8"), looks := true }, kinds := [], alts := [], laidByText := true, laidKinds := [.data, .data, .data, .data, .data, .data, .sentinel, .sentinel, .data, .data, .pinned], laidTests := true, laidLooks := .later }
def MidFuelCardSaid : Prop := Claim7.holds Tryz.pinned (.plain (OpenSpec.ofChange midFuelSpec)) midFuelCard

/-- THE TIED CARD OF 'bloomerykeep.FoldProgram'. -/
def foldProgramCard : Claim7 := { stood := { row := foldProgramRow, standIns := [], harness := (true, "99489c62abd01a6948009961e7f19ebb585607cde6b8319f79fb5a7a43a0fbc8"), looks := true }, kinds := [], alts := [], laidByText := true, laidKinds := [.data, .data, .data, .data, .data, .data, .data, .sentinel, .sentinel, .data, .data, .pinned], laidTests := true, laidLooks := .later }
def FoldProgramCardSaid : Prop := Claim7.holds Tryz.pinned (.plain (OpenSpec.ofChange foldProgramSpec)) foldProgramCard

/-- THE SECOND FORM's CARD OF 'bloomerykeep.RunFuel'. -/
def runFuelUptoCard : Claim7 := { stood := { row := runFuelUptoRow, standIns := [], harness := (true, "99489c62abd01a6948009961e7f19ebb585607cde6b8319f79fb5a7a43a0fbc8"), looks := true }, kinds := [], alts := [], laidByText := true, laidKinds := [.data, .data, .data, .data, .sentinel, .sentinel, .data, .data, .pinned], laidTests := true, laidLooks := .later }
def RunFuelUptoCardSaid : Prop := Claim7.holds Tryz.pinned (.plain (OpenSpec.upto runFuelSpec)) runFuelUptoCard

/-- THE SECOND FORM's CARD OF 'bloomerykeep.RunPrinted'. -/
def runPrintedUptoCard : Claim7 := { stood := { row := runPrintedUptoRow, standIns := [], harness := (true, "99489c62abd01a6948009961e7f19ebb585607cde6b8319f79fb5a7a43a0fbc8"), looks := true }, kinds := [], alts := [], laidByText := true, laidKinds := [.data, .data, .data, .data, .sentinel, .sentinel, .data, .data, .pinned], laidTests := true, laidLooks := .later }
def RunPrintedUptoCardSaid : Prop := Claim7.holds Tryz.pinned (.plain (OpenSpec.upto runPrintedSpec)) runPrintedUptoCard

/-- THE SECOND FORM's CARD OF 'bloomerykeep.RunTurns'. -/
def runTurnsUptoCard : Claim7 := { stood := { row := runTurnsUptoRow, standIns := [], harness := (true, "99489c62abd01a6948009961e7f19ebb585607cde6b8319f79fb5a7a43a0fbc8"), looks := true }, kinds := [], alts := [], laidByText := true, laidKinds := [.data, .data, .data, .data, .sentinel, .sentinel, .data, .data, .pinned], laidTests := true, laidLooks := .later }
def RunTurnsUptoCardSaid : Prop := Claim7.holds Tryz.pinned (.plain (OpenSpec.upto runTurnsSpec)) runTurnsUptoCard

/-- THE SECOND FORM's CARD OF 'bloomerykeep.MidSame'. -/
def midSameUptoCard : Claim7 := { stood := { row := midSameUptoRow, standIns := [], harness := (true, "99489c62abd01a6948009961e7f19ebb585607cde6b8319f79fb5a7a43a0fbc8"), looks := true }, kinds := [], alts := [], laidByText := true, laidKinds := [.data, .data, .data, .data, .handle, .data, .data, .sentinel, .sentinel, .data, .data, .pinned], laidTests := true, laidLooks := .later }
def MidSameUptoCardSaid : Prop := Claim7.holds Tryz.pinned (.plain (OpenSpec.upto midSameSpec)) midSameUptoCard

/-- THE SECOND FORM's CARD OF 'bloomerykeep.MidFuel'. -/
def midFuelUptoCard : Claim7 := { stood := { row := midFuelUptoRow, standIns := [], harness := (true, "99489c62abd01a6948009961e7f19ebb585607cde6b8319f79fb5a7a43a0fbc8"), looks := true }, kinds := [], alts := [], laidByText := true, laidKinds := [.data, .data, .data, .data, .data, .data, .sentinel, .sentinel, .data, .data, .pinned], laidTests := true, laidLooks := .later }
def MidFuelUptoCardSaid : Prop := Claim7.holds Tryz.pinned (.plain (OpenSpec.upto midFuelSpec)) midFuelUptoCard

/-- THE SECOND FORM's CARD OF 'bloomerykeep.FoldProgram'. -/
def foldProgramUptoCard : Claim7 := { stood := { row := foldProgramUptoRow, standIns := [], harness := (true, "99489c62abd01a6948009961e7f19ebb585607cde6b8319f79fb5a7a43a0fbc8"), looks := true }, kinds := [], alts := [], laidByText := true, laidKinds := [.data, .data, .data, .data, .data, .data, .data, .sentinel, .sentinel, .data, .data, .pinned], laidTests := true, laidLooks := .later }
def FoldProgramUptoCardSaid : Prop := Claim7.holds Tryz.pinned (.plain (OpenSpec.upto foldProgramSpec)) foldProgramUptoCard
end Rows
end Go.Proofs.YtnfhpdbbfejioaaGreatDoor
