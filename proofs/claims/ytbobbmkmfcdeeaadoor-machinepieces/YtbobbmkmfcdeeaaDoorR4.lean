/- MachinePieces, walked: lists that are too long. -/
import Derived.Test.YtbobbmkmfcdeeaaDoorA2
import Derived.Below
namespace Go.Proofs.YtbobbmkmfcdeeaaDoor
open Go Go.RowKit

set_option maxRecDepth 100000 in
set_option maxHeartbeats 1000000 in
theorem pieces_long (w : World) (q r : Option Addr) (n c k d : Nat) (a b : Int) (h : 60 < n ∨ 20 < k) :
    Calls Tryd.prog 4 #[.slice q n c, .slice r k d, .int .i64 a, .int .i64 b] w fun e w' => e = .returned (.bool true) ∧ Below w.heap.size w w' := by
  by_cases h1 : 60 < n
  · have h1' : (60 : Int) < (n : Int) := by omega
    go_enter Tryd.func4, Tryd.ntmps4
    go_wp2
    go_ret
    exact ⟨rfl, Below.refl _ _⟩
  · have h1' : ¬ (60 : Int) < (n : Int) := by omega
    have h2' : (20 : Int) < (k : Int) := by omega
    go_enter Tryd.func4, Tryd.ntmps4
    go_wp2
    go_ret
    exact ⟨rfl, Below.refl _ _⟩

end Go.Proofs.YtbobbmkmfcdeeaaDoor
