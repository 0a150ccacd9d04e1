/- lines: the iterator's closure. -/
import Derived.Test.YtjjjdplgdlaihaaGreatDoorB8
namespace Go.Proofs.YtjjjdplgdlaihaaGreatDoor
open Go Go.RowKit

theorem lines_any (s : ByteArray) (w : World) :
    Calls Tryz.prog 24 #[.string s] w fun e w' => e = .returned (.func (.func 58) #[] #[.pointer (some ⟨w.heap.size, 0, none⟩)]) ∧ w' = w.alloc (.cells #[.string s] 9) := by
  go_enter Tryz.func24, Tryz.ntmps24
  go_wp2
  go_ret
  exact ⟨rfl, rfl⟩
end Go.Proofs.YtjjjdplgdlaihaaGreatDoor
