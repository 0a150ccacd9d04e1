/- Encode of the document's own answer: an instruction that may not be. -/
import Derived.Test.YtchankbdfkgdiaaDoorE6
import Derived.Test.YtchankbdfkgdiaaDoorE10
namespace Go.Proofs.YtchankbdfkgdiaaDoor
open Go Go.RowKit

set_option maxRecDepth 100000 in
set_option maxHeartbeats 2000000 in
theorem encdoc_no (o d a b n : Int) (w : World) (hr : Rt o d a b n = false) :
    Calls Tryd.prog 6 #[instV o d a b n] w fun e w' => e = .returned (.tuple #[.int .u32 0, .int .i64 1]) ∧ Below w.heap.size w w' := by
  have hR := right_doc o d a b n
  rw [hr] at hR
  go_enter Tryd.func6, Tryd.ntmps6
  go_wp2_with (go_at_call 10; fail)
  refine (hR _).mono ?_
  rintro e w0 ⟨rfl, hb0⟩
  have HB0 : Hid (Below w.heap.size w w0) := ((Below.refl _ _).alloc (Nat.le_refl _) _).trans (hb0.mono (by simp))
  clear hb0
  go_wp2_with fail
  go_ret2
  exact ⟨rfl, HB0.out⟩
end Go.Proofs.YtchankbdfkgdiaaDoor
