/- lines: the iterator's closure. -/
import Derived.Test.YtjjjdplgdlaihaaDoorB8
namespace Go.Proofs.YtjjjdplgdlaihaaDoor
open Go Go.RowKit

theorem lines_any (s : ByteArray) (w : World) :
    Calls Tryd.prog 13 #[.string s] w fun e w' => e = .returned (.func (.func 21) #[] #[.pointer (some ⟨w.heap.size, 0, none⟩)]) ∧ w' = w.alloc (.cells #[.string s] 9) := by
  go_enter Tryd.func13, Tryd.ntmps13
  go_wp2
  go_ret
  exact ⟨rfl, rfl⟩
end Go.Proofs.YtjjjdplgdlaihaaDoor
