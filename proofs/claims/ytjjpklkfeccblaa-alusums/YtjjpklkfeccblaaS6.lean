/- AluSums walked: one of its cases. -/
import Derived.Test.YtjjpklkfeccblaaS0
namespace Go.Proofs.Ytjjpklkfeccblaa.aluSums
open Go Go.RowKit
set_option linter.unusedVariables false
set_option maxRecDepth 100000 in
set_option maxHeartbeats 4000000 in
theorem core10p (a b n q r k L S M x p o s1 s2 y : Int) (d : Bool) (w : World)
    (e1 : aluV 1 2 3 = 5) (e2 : aluV 4 (-7) 2 = -3) (hd : decide (a < 0) = d)
    (h2 : aluV 2 (aluV 1 a 0) 0 = a) (h3 : aluV 9 a 0 = s1) (h4 : aluV 9 0 a = s2) (h5 : wrap64 (s1 + s2) = 1) (h6 : aluV 9 a a = 0)
    (hk : n % 64 = k) (h7 : aluV 11 a k = L) (h8 : aluV 12 L k = S) (h9 : aluV 12 (-1) k = M) (h10 : aluV 6 a M = S)
    (h11 : aluV 13 a k = y) (h12 : aluV 13 a (k + 64) = y) (h13 : decide (y < 0) = d)
    (h14 : aluV 8 a 0 = x) (h15 : aluV 6 a 0 = p) (h16 : aluV 7 a 0 = o) (h17 : aluV 1 p o = wrap64 (a + 0)) (h18 : aluV 2 o p = x) (h19 : aluV 8 x 0 = a)
    (hq : aluV 4 a 0 = -1) (hr : aluV 5 a 0 = a) (hs : a ≠ 0) :
    Calls Try.prog 4 #[.int .i64 a, .int .i64 0, .int .i64 n] w fun e w' => e = .returned (.bool true) ∧ Grown w w' := by
  go_enter Try.func4, Try.ntmps4
  go_wp2_with (first | (go_at_call 5; refine (alu_any _ _ _ _).mono ?_; rintro e w' ⟨rfl, rfl⟩) | (go_at_call 7; refine (pick_any _ _).mono ?_; rintro e w' ⟨rfl, rfl⟩))
  go_ret
  exact ⟨rfl, Grown.refl _⟩
end Go.Proofs.Ytjjpklkfeccblaa.aluSums
