/- pick: a number below another. -/
import Derived.Test.YtjjjdplgdlaihaaDoorB8
namespace Go.Proofs.YtjjjdplgdlaihaaDoor
open Go Go.RowKit

def pickV (a n : Int) : Int := a % 18446744073709551616 % n
theorem pick_gen (a n : Int) (w : World) (h0 : 0 < n) (h1 : n ≤ 1000000) :
    Calls Tryd.prog 5 #[.int .i64 a, .int .i64 n] w fun e w' => e = .returned (.int .i64 (pickV a n)) ∧ w' = w := by
  have hu : IntKind.u64.wrap a = a % 18446744073709551616 := IntKind.wrap_u64 a
  have hm0 : 0 ≤ a % 18446744073709551616 % n := Int.emod_nonneg _ (by omega)
  have hm1 : a % 18446744073709551616 % n < n := Int.emod_lt_of_pos _ h0
  have HP : Hid (pickV a n = a % 18446744073709551616 % n) := rfl
  have ha0 : 0 ≤ a % 18446744073709551616 := by omega
  generalize a % 18446744073709551616 = x at *
  go_enter Tryd.func5, Tryd.ntmps5
  go_wp2
  go_ret
  refine ⟨?_, rfl⟩
  rw [HP.out]
  rfl
theorem pick_bound (a n : Int) (h0 : 0 < n) : 0 ≤ pickV a n ∧ pickV a n < n := ⟨Int.emod_nonneg _ (by omega), Int.emod_lt_of_pos _ h0⟩
end Go.Proofs.YtjjjdplgdlaihaaDoor
