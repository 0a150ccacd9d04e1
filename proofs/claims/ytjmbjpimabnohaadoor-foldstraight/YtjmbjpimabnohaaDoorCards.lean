/-
  DERIVED. GIVEN WITH THE SEED: THE CARDS: each row of YtjmbjpimabnohaaDoorRows.lean that lists a variable, with what it lists TIED to the program's text (the seventh form; the later family's looks); each row that meets fmt, with fmt's text TOLD by the authors' own Lean function (tested against real Go, not proved from fmt's source: count such statements apart). THE CARD IS WHAT COUNTS. Prove the row's statement (the work); the ties are given (YtjmbjpimabnohaaDoorTie.lean); close each card by the builder's one call (the guide's Derived/Test/ToyasCard.lean, 'card_holds'). Laid BY PROGRAM, IN A SANDBOX (cutbox-door.mjs). By AI agents, Wed Nov 11 2026. No macro, syntax, notation, axiom, sorry.
-/
import Derived.Test.YtjmbjpimabnohaaDoorRows
import GoSem.ClaimSeven
namespace Go.Proofs.YtjmbjpimabnohaaDoor
namespace Rows

/-- THE TIED CARD OF 'bloomerylaw.MidRuns'. -/
def midRunsCard : Claim7 := { stood := { row := midRunsRow, standIns := [], harness := (true, "1b8fb4b90e5e5233e346669a8f704d82fc948e2aefdbc466756eedc3a0879416"), looks := true }, kinds := [], alts := [], laidByText := true, laidKinds := [.data, .data], laidTests := true, laidLooks := .later }
def MidRunsCardSaid : Prop := Claim7.holds Tryd.pinned (.plain (OpenSpec.ofChange midRunsSpec)) midRunsCard

/-- THE TIED CARD OF 'bloomerykeep.FoldStraight'. -/
def foldStraightCard : Claim7 := { stood := { row := foldStraightRow, standIns := [], harness := (true, "1b8fb4b90e5e5233e346669a8f704d82fc948e2aefdbc466756eedc3a0879416"), looks := true }, kinds := [], alts := [], laidByText := true, laidKinds := [.data, .data, .data], laidTests := true, laidLooks := .later }
def FoldStraightCardSaid : Prop := Claim7.holds Tryd.pinned (.plain (OpenSpec.ofChange foldStraightSpec)) foldStraightCard

/-- THE SECOND FORM's CARD OF 'bloomerylaw.MidRuns'. -/
def midRunsUptoCard : Claim7 := { stood := { row := midRunsUptoRow, standIns := [], harness := (true, "1b8fb4b90e5e5233e346669a8f704d82fc948e2aefdbc466756eedc3a0879416"), looks := true }, kinds := [], alts := [], laidByText := true, laidKinds := [.data, .data], laidTests := true, laidLooks := .later }
def MidRunsUptoCardSaid : Prop := Claim7.holds Tryd.pinned (.plain (OpenSpec.upto midRunsSpec)) midRunsUptoCard

/-- THE SECOND FORM's CARD OF 'bloomerykeep.FoldStraight'. -/
def foldStraightUptoCard : Claim7 := { stood := { row := foldStraightUptoRow, standIns := [], harness := (true, "1b8fb4b90e5e5233e346669a8f704d82fc948e2aefdbc466756eedc3a0879416"), looks := true }, kinds := [], alts := [], laidByText := true, laidKinds := [.data, .data, .data], laidTests := true, laidLooks := .later }
def FoldStraightUptoCardSaid : Prop := Claim7.holds Tryd.pinned (.plain (OpenSpec.upto foldStraightSpec)) foldStraightUptoCard
end Rows
end Go.Proofs.YtjmbjpimabnohaaDoor
