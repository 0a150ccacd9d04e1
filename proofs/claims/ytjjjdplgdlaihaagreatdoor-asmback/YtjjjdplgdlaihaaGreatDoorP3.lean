/- Print of an instruction that may not be. -/
import Derived.Test.YtjjjdplgdlaihaaGreatDoorB8
namespace Go.Proofs.YtjjjdplgdlaihaaGreatDoor
open Go Go.RowKit

set_option maxRecDepth 100000 in
set_option maxHeartbeats 1000000 in
theorem print_no (o d a b n : Int) (w : World) (he : Env w) (hr : Rt o d a b n = false) :
    Calls Tryz.prog 12 #[instV o d a b n] w fun e w' => e = .returned (.tuple #[.string ⟨#[]⟩, .iface 23 (.int .i64 1)]) ∧ Below w.heap.size w w' := by
  have HB1 : Hid (Below w.heap.size w (w.alloc (.cells #[.int .i64 o, .int .i64 d, .int .i64 a, .int .i64 b, .int .i64 n] 39))) := (Below.refl _ _).alloc (Nat.le_refl _) _
  have HR : Hid (∀ w', Below w.heap.size w w' → Calls Tryz.prog 36 #[instV o d a b n] w' fun e w'' => e = .returned (.bool false) ∧ Below w'.heap.size w' w'') := fun w' hb => by
    have := right_T o d a b n w' (he.below hb).tab
    rw [hr] at this
    exact this
  clear he hr
  go_enter Tryz.func12, Tryz.ntmps12
  go_wp2_with (go_at_call 36; refine (HR.out _ HB1.out).mono ?_; rintro e w2 ⟨rfl, hb2⟩)
  go_ret2
  exact ⟨rfl, HB1.out.trans (hb2.mono (by simp))⟩
end Go.Proofs.YtjjjdplgdlaihaaGreatDoor
