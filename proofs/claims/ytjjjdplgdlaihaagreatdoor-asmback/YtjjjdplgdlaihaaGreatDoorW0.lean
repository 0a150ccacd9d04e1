/- An instruction that may be is read back from its print. -/
import Derived.Test.YtjjjdplgdlaihaaGreatDoorB8
namespace Go.Proofs.YtjjjdplgdlaihaaGreatDoor
open Go Go.RowKit

/-- What an op's parts say agrees with its shape. -/
def fitsP (o : Nat) : Bool :=
  let s := T.sh (T.kd o)
  let ks := (opsL.getD o ([], [])).2
  (ks.contains 100 || !s.rd) && ((ks.contains 97 || ks.contains 40) || !s.ra) && (ks.contains 98 || !s.rb) && (hasN ks || (decide (0 ≤ s.lo) && decide (s.hi ≤ 1))) && decide (-9223372036854775808 ≤ s.lo) && decide (s.hi ≤ 9223372036854775807)
set_option maxRecDepth 100000 in
theorem fitsP_all : ∀ o, o < 32 → 1 ≤ o → fitsP o = true := by decide

theorem wfd_rt (o d a b n : Int) (hr : Rt o d a b n = true) : Wfd ⟨o, d, a, b, n, []⟩ := by
  obtain ⟨h1, h2, h3⟩ := Rt_split hr
  have hf := fitsP_all o.toNat (by omega) (by omega)
  simp only [fitsP] at hf
  generalize T.sh (T.kd o.toNat) = s at *
  simp only [rightB, nfB, Bool.and_eq_true, decide_eq_true_eq] at h3
  obtain ⟨⟨⟨r1, r2⟩, r3⟩, ⟨n1, n2⟩, _⟩ := h3
  simp only [Bool.and_eq_true, decide_eq_true_eq] at hf
  obtain ⟨⟨⟨⟨⟨f1, f2⟩, f3⟩, f4⟩, f5⟩, f6⟩ := hf
  refine wfd_of _ h1 h2 (fit_any _ _ r1) (fit_any _ _ r2) (fit_any _ _ r3) ⟨by show _ ≤ n; omega, by show n ≤ _; omega⟩ rfl ?_ ?_ ?_ ?_
  · intro z
    simp only at z
    rw [z] at f1
    have : s.rd = false := by simpa using f1
    rw [this] at r1
    exact fit_f _ r1
  · intro z
    simp only at z
    rw [z] at f2
    have : s.ra = false := by simpa using f2
    rw [this] at r2
    exact fit_f _ r2
  · intro z
    simp only at z
    rw [z] at f3
    have : s.rb = false := by simpa using f3
    rw [this] at r3
    exact fit_f _ r3
  · intro z
    simp only at z
    rw [z] at f4
    simp at f4
    show n = 0
    omega
end Go.Proofs.YtjjjdplgdlaihaaGreatDoor
