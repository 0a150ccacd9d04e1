/-
  DERIVED. GIVEN WITH THE SEED: THE CARDS: each row of YtaodcpdkobhmfaaDoorRows.lean that lists a variable, with what it lists TIED to the program's text (the seventh form; the later family's looks); each row that meets fmt, with fmt's text TOLD by the authors' own Lean function (tested against real Go, not proved from fmt's source: count such statements apart). THE CARD IS WHAT COUNTS. Prove the row's statement (the work); the ties are given (YtaodcpdkobhmfaaDoorTie.lean); close each card by the builder's one call (the guide's Derived/Test/ToyasCard.lean, 'card_holds'). Laid BY PROGRAM, IN A SANDBOX (cutbox-door.mjs). By AI agents, Wed Nov 11 2026. No macro, syntax, notation, axiom, sorry.
-/
import Derived.Test.YtaodcpdkobhmfaaDoorRows
import GoSem.ClaimSeven
namespace Go.Proofs.YtaodcpdkobhmfaaDoor
namespace Rows

/-- THE TIED CARD OF 'bloomerylaw.MachineDoes'. -/
def machineDoesCard : Claim7 := { stood := { row := machineDoesRow, standIns := [], harness := (true, "f1a0a074830c207c15debca3b27c5888a8ef051da4f9ae5bcc383fe4c35039eb"), looks := true }, kinds := [], alts := [], laidByText := true, laidKinds := [.handle, .data, .data], laidTests := true, laidLooks := .later }
def MachineDoesCardSaid : Prop := Claim7.holds Tryd.pinned (.plain (OpenSpec.ofChange machineDoesSpec)) machineDoesCard

/-- THE TIED CARD OF 'bloomerykeep.MachinePieces'. -/
def machinePiecesCard : Claim7 := { stood := { row := machinePiecesRow, standIns := [], harness := (true, "f1a0a074830c207c15debca3b27c5888a8ef051da4f9ae5bcc383fe4c35039eb"), looks := true }, kinds := [], alts := [], laidByText := true, laidKinds := [.data, .data], laidTests := true, laidLooks := .later }
def MachinePiecesCardSaid : Prop := Claim7.holds Tryd.pinned (.plain (OpenSpec.ofChange machinePiecesSpec)) machinePiecesCard

/-- THE TIED CARD OF 'bloomerykeep.MachineKeeps'. -/
def machineKeepsCard : Claim7 := { stood := { row := machineKeepsRow, standIns := [], harness := (true, "f1a0a074830c207c15debca3b27c5888a8ef051da4f9ae5bcc383fe4c35039eb"), looks := true }, kinds := [], alts := [], laidByText := true, laidKinds := [.data, .data], laidTests := true, laidLooks := .later }
def MachineKeepsCardSaid : Prop := Claim7.holds Tryd.pinned (.plain (OpenSpec.ofChange machineKeepsSpec)) machineKeepsCard

/-- THE SECOND FORM's CARD OF 'bloomerylaw.MachineDoes'. -/
def machineDoesUptoCard : Claim7 := { stood := { row := machineDoesUptoRow, standIns := [], harness := (true, "f1a0a074830c207c15debca3b27c5888a8ef051da4f9ae5bcc383fe4c35039eb"), looks := true }, kinds := [], alts := [], laidByText := true, laidKinds := [.handle, .data, .data], laidTests := true, laidLooks := .later }
def MachineDoesUptoCardSaid : Prop := Claim7.holds Tryd.pinned (.plain (OpenSpec.upto machineDoesSpec)) machineDoesUptoCard

/-- THE SECOND FORM's CARD OF 'bloomerykeep.MachinePieces'. -/
def machinePiecesUptoCard : Claim7 := { stood := { row := machinePiecesUptoRow, standIns := [], harness := (true, "f1a0a074830c207c15debca3b27c5888a8ef051da4f9ae5bcc383fe4c35039eb"), looks := true }, kinds := [], alts := [], laidByText := true, laidKinds := [.data, .data], laidTests := true, laidLooks := .later }
def MachinePiecesUptoCardSaid : Prop := Claim7.holds Tryd.pinned (.plain (OpenSpec.upto machinePiecesSpec)) machinePiecesUptoCard

/-- THE SECOND FORM's CARD OF 'bloomerykeep.MachineKeeps'. -/
def machineKeepsUptoCard : Claim7 := { stood := { row := machineKeepsUptoRow, standIns := [], harness := (true, "f1a0a074830c207c15debca3b27c5888a8ef051da4f9ae5bcc383fe4c35039eb"), looks := true }, kinds := [], alts := [], laidByText := true, laidKinds := [.data, .data], laidTests := true, laidLooks := .later }
def MachineKeepsUptoCardSaid : Prop := Claim7.holds Tryd.pinned (.plain (OpenSpec.upto machineKeepsSpec)) machineKeepsUptoCard
end Rows
end Go.Proofs.YtaodcpdkobhmfaaDoor
