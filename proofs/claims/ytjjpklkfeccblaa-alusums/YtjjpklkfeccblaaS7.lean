/- AluSums walked: one of its cases. -/
import Derived.Test.YtjjpklkfeccblaaS0
namespace Go.Proofs.Ytjjpklkfeccblaa.aluSums
open Go Go.RowKit
set_option linter.unusedVariables false
set_option maxRecDepth 100000 in
set_option maxHeartbeats 4000000 in
theorem core11 (n k M : Int) (w : World)
    (e1 : aluV 1 2 3 = 5) (e2 : aluV 4 (-7) 2 = -3) (hq : aluV 4 0 0 = -1) (hr : aluV 5 0 0 = 0)
    (h1 : aluV 1 0 0 = 0) (h2 : aluV 2 0 0 = 0) (h6 : aluV 9 0 0 = 0)
    (hk : n % 64 = k) (h7 : aluV 11 0 k = 0) (h8 : aluV 12 0 k = 0) (h9 : aluV 12 (-1) k = M) (h10 : aluV 6 0 M = 0)
    (h11 : aluV 13 0 k = 0) (h12 : aluV 13 0 (k + 64) = 0)
    (h14 : aluV 8 0 0 = 0) (h15 : aluV 6 0 0 = 0) (h16 : aluV 7 0 0 = 0) :
    Calls Try.prog 4 #[.int .i64 0, .int .i64 0, .int .i64 n] w fun e w' => e = .returned (.bool true) ∧ Grown w w' := by
  go_enter Try.func4, Try.ntmps4
  go_wp2_with (first | (go_at_call 5; refine (alu_any _ _ _ _).mono ?_; rintro e w' ⟨rfl, rfl⟩) | (go_at_call 7; refine (pick_any _ _).mono ?_; rintro e w' ⟨rfl, rfl⟩))
  go_ret
  exact ⟨rfl, Grown.refl _⟩
end Go.Proofs.Ytjjpklkfeccblaa.aluSums
