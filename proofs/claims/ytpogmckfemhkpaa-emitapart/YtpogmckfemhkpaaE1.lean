/- Package emit's Plan, walked. -/
import Derived.Test.YtpogmckfemhkpaaE0
import Derived.Laws.Rows
import Derived.Deep.WholeRow
namespace Go.Proofs.Ytpogmckfemhkpaa
open Go Go.RowKit
theorem grown_trans {a b c : World} (h : Grown a b) (k : Grown b c) : Grown a c := ⟨World.keptBut_trans h.1 k.1, fun x => (k.2.1 x).trans (h.2.1 x), Nat.le_trans h.2.2 k.2.2⟩
theorem plan_eq {a b c k d e c' : Int} (hc : c = codeV a) (hc' : c' = codeV a) (hk : k = codeV a + rootV a b) (hd : d = codeV a + rootV a b + halfV a b) (he : e = b - stackV a b) : Ending.returned (.agg #[.int .i64 c, .int .i64 c', .int .i64 k, .int .i64 d, .int .i64 e, .int .i64 b]) = Ending.returned (planV a b) := by
  subst hc hc' hk hd he; rfl
theorem res5 (tmps : Array Value) (w : World) (g : Nat) (a b c d e f : Value) (hp : tmps.getD 4 undef = .pointer (some ⟨g, 0, none⟩)) (hg : w.heap[g]? = some (.cells #[a, b, c, d, e, f] 24)) :
    (results Try.f5 tmps).run Try.prog w = .ok (.agg #[a, b, c, d, e, f]) w :=
  results_cell_row (p := 4) (ty := 24) Try.results5 _ _ g 24 _ (0, 0) _ hp hg Try.underlying24 rfl (by kernel_rfl)
theorem rest_if (a b c : Int) (h : c = codeV a) : (if c < b then b - c else 0) = restV a b := by
  subst h; unfold restV; split <;> omega
theorem plan_any (a b : Int) (a0 : 0 ≤ a) (a1 : a ≤ 1048576) (b0 : 0 ≤ b) (b1 : b ≤ 1048576) (w : World) : Calls Try.prog 5 #[.int .i64 a, .int .i64 b] w fun e w' => e = .returned (planV a b) ∧ Grown w w' := by
  have d1 : decide (a < 0) = false := by simpa using a0
  have d2 : decide (1048576 < a) = false := by simpa using a1
  have d3 : decide (b < 0) = false := by simpa using b0
  have d4 : decide (1048576 < b) = false := by simpa using b1
  go_enter Try.func5, Try.ntmps5
  go_wp2_with (go_at_call 9; refine (cut_ex _ (by omega) (by omega) _).mono ?_; rintro e w' ⟨c, c0, c1, hc, rfl, rfl⟩)
  all_goals rename_i x x0 x1 hx y y0 y1 hy z z0 z1 hz
  all_goals (
    have ex : x = codeV a := by
      have := hx.get; rw [this]; unfold codeV; congr 1; omega
    have er := rest_if a b x ex
    have ey : y = rootV a b := by
      have := hy.get; rw [er] at this; exact this
    have ez : z = stackV a b := by
      have := hz.get; rw [er] at this; exact this
    have et : c = halfV a b := by
      have := hc.get; rw [er, ey, ez] at this; exact this
    refine bodyPost_ret (res5 _ _ w.heap.size _ _ _ _ _ _ rfl (heap_alloc_last _ _)) rfl ?_
    refine ⟨plan_eq (by omega) (by omega) (by omega) (by omega) (by omega), by repeat (first | exact Grown.refl _ | apply Grown.drew | apply Grown.alloc)⟩)
end Go.Proofs.Ytpogmckfemhkpaa
