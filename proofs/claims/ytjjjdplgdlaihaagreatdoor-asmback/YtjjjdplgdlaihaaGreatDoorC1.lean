/- Package word's Right, over the program's own tables. -/
import Derived.Test.YtjjjdplgdlaihaaGreatDoorL2
namespace Go.Proofs.YtjjjdplgdlaihaaGreatDoor
open Go Go.RowKit

/-- An instruction may be. -/
def Rt (o d a b n : Int) : Bool := decide (1 ≤ o) && decide (o ≤ 31) && rightB d a b n (T.sh (T.kd o.toNat))
theorem fit_f (r : Int) (h : fitB r false = true) : r = 0 := by
  simpa [fitB] using h

theorem fit_t (r : Int) (h : fitB r true = true) : 0 ≤ r ∧ r < 32 := by
  simp [fitB] at h; omega

theorem Rt_split {o d a b n : Int} (h : Rt o d a b n = true) : 1 ≤ o ∧ o ≤ 31 ∧ rightB d a b n (T.sh (T.kd o.toNat)) = true := by
  simp only [Rt, Bool.and_eq_true, decide_eq_true_eq] at h
  exact ⟨h.1.1, h.1.2, h.2⟩

theorem fit_any (r : Int) (has : Bool) (h : fitB r has = true) : 0 ≤ r ∧ r < 32 := by
  cases has
  · have := fit_f r h; omega
  · exact fit_t r h

theorem right_T (o d a b n : Int) (w : World) (ht : Tabs T w) :
    Calls Tryz.prog 36 #[instV o d a b n] w fun e w' => e = .returned (.bool (Rt o d a b n)) ∧ Below w.heap.size w w' := by
  by_cases h1 : 1 ≤ o
  · by_cases h2 : o ≤ 31
    · obtain ⟨k, rfl⟩ := Int.eq_ofNat_of_zero_le (show 0 ≤ o by omega)
      have e : Rt (k : Int) d a b n = rightB d a b n (T.sh (T.kd k)) := by simp [Rt, h1, h2]
      rw [e]
      exact right_yes k (T.kd k) _ _ _ d a b n _ _ w (by omega) (by omega) (T_ok.k8 k (by omega) (by omega)) (ht k (by omega) (by omega)) (T_ok.is _ (T_ok.k8 k (by omega) (by omega))) (T_ok.ok _ (T_ok.k8 k (by omega) (by omega)))
    · have e : Rt o d a b n = false := by simp [Rt, h2]
      rw [e]
      exact right_no o d a b n w (.inr (by omega))
  · have e : Rt o d a b n = false := by simp [Rt, h1]
    rw [e]
    exact right_no o d a b n w (.inl (by omega))

end Go.Proofs.YtjjjdplgdlaihaaGreatDoor
