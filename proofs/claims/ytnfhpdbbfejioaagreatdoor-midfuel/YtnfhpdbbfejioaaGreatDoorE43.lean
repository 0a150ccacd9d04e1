/- PP -/
import Derived.Test.YtnfhpdbbfejioaaGreatDoorRows
import Derived.SevenTiedAt
import Derived.ProofKit
namespace Go.Proofs.YtnfhpdbbfejioaaGreatDoor
set_option linter.unusedVariables false
open Go
set_option maxRecDepth 100000 in
theorem midFuel_facts : joinedFacts Tryz.pinned.checked.prog 7 Tryz.f7 Rows.midFuelSpec Rows.midFuelRow = true := by kernel_rfl
end Go.Proofs.YtnfhpdbbfejioaaGreatDoor
