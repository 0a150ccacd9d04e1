/-
  DERIVED. GIVEN WITH THE SEED: THE PROGRAM's TIES (one call each: nine closed facts by the kernel) AND EACH ROW's TIE, after the 31st guide's Derived/Test/Toyas{Tie, Card}.lean. No idea stands in it: it is a product of the set-up. Laid BY PROGRAM, IN A SANDBOX (cutbox-door.mjs). By AI agents, Wed Nov 11 2026. No macro, syntax, notation, axiom, sorry.
-/
import Derived.Test.YtjmbjpimabnohaaDoorRows
import Derived.LaidByTextLater
import Derived.SevenTiedAt
import Derived.LaidSub
import Derived.LaidOnce
namespace Go.Proofs.YtjmbjpimabnohaaDoor
open Go
set_option maxRecDepth 100000
theorem seatTie1 : Tryd.prog.laidByTextLater [("bloomery/mid.marks", Rows.laid_bloomery_mid_marks), ("bloomery/mid.forms", Rows.laid_bloomery_mid_forms), ("bloomery/fold.forms", Rows.laid_bloomery_fold_forms)] [.data, .data, .data] true :=
  Program.laidByTextLater_by_one 52 8 76 (by kernel_rfl) (by kernel_rfl) (by kernel_rfl) (by kernel_rfl) (by kernel_rfl) (by kernel_rfl) (fun _ _ => by kernel_rfl)
theorem noOwnUnsafe : Tryd.pinned.checked.prog.headLifts.contains "ownunsafe" = false := by kernel_rfl
theorem tie : Tryd.prog.laidByTextLater [("bloomery/mid.marks", Rows.laid_bloomery_mid_marks), ("bloomery/mid.forms", Rows.laid_bloomery_mid_forms)] [.data, .data] true :=
  Program.laidByTextLater.sub seatTie1 ["bloomery/mid.marks", "bloomery/mid.forms"] (by kernel_rfl) (by kernel_rfl)
theorem midRuns_row_tie : Rows.midRunsRow.laidByTextAt .later Tryd.pinned [.data, .data] true :=
  OpenClaim.laidByTextAt_later rfl rfl tie noOwnUnsafe
theorem tie2 : Tryd.prog.laidByTextLater [("bloomery/mid.marks", Rows.laid_bloomery_mid_marks), ("bloomery/mid.forms", Rows.laid_bloomery_mid_forms), ("bloomery/fold.forms", Rows.laid_bloomery_fold_forms)] [.data, .data, .data] true :=
  Program.laidByTextLater.sub seatTie1 ["bloomery/mid.marks", "bloomery/mid.forms", "bloomery/fold.forms"] (by kernel_rfl) (by kernel_rfl)
theorem foldStraight_row_tie : Rows.foldStraightRow.laidByTextAt .later Tryd.pinned [.data, .data, .data] true :=
  OpenClaim.laidByTextAt_later rfl rfl tie2 noOwnUnsafe
theorem midRunsUpto_row_tie : Rows.midRunsUptoRow.laidByTextAt .later Tryd.pinned [.data, .data] true :=
  OpenClaim.laidByTextAt_later rfl rfl tie noOwnUnsafe
theorem foldStraightUpto_row_tie : Rows.foldStraightUptoRow.laidByTextAt .later Tryd.pinned [.data, .data, .data] true :=
  OpenClaim.laidByTextAt_later rfl rfl tie2 noOwnUnsafe
end Go.Proofs.YtjmbjpimabnohaaDoor
