/- SZ -/
import Derived.Test.YtnfhpdbbfejioaaGreatDoorJA
import Derived.Test.YtnfhpdbbfejioaaGreatDoorRows
import Derived.SevenTiedAt
import Derived.ProofKit
set_option linter.unusedVariables false
set_option linter.unusedSimpArgs false
set_option maxRecDepth 100000
set_option maxHeartbeats 16000000
namespace Go.Proofs.YtnfhpdbbfejioaaGreatDoor
open Go
theorem un:joinedFacts Tryz.pinned.checked.prog 6 Tryz.f6 Rows.midSameSpec Rows.midSameRow=true:=by kernel_rfl
end Go.Proofs.YtnfhpdbbfejioaaGreatDoor
