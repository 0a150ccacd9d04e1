/- Parts stand apart: the plain mathematics. -/
import Derived.Test.YtchankbdfkgdiaaDoorK8
namespace Go.Proofs.YtchankbdfkgdiaaDoor
open Go Go.RowKit

theorem partK0 (l m h : Nat) (hl : l < 128) (hm : m < 8) (hh : h < 128) (d a b n : Int) (hr : rightB d a b n sh0 = true) : ∃ R : Nat, R + 3968 < 4294967296 ∧ R % 128 = l ∧ (0 ≤ d ∧ d < 32) ∧ ∀ d' : Nat, d' < 32 → encV (l : Int) (m : Int) (h : Int) (d' : Int) a b n sh0 = ((R + d' * 128 : Nat) : Int) := by
  simp only [rightB, Bool.and_eq_true] at hr
  obtain ⟨⟨⟨h1, h2⟩, h3⟩, _⟩ := hr
  have hd := fit_t d h1
  obtain ⟨a0, a1⟩ := fit_t a h2
  obtain ⟨a, rfl⟩ := Int.eq_ofNat_of_zero_le a0
  obtain ⟨b0, b1⟩ := fit_t b h3
  obtain ⟨b, rfl⟩ := Int.eq_ofNat_of_zero_le b0
  obtain ⟨e1, w1⟩ := obV_eq l m h hl hm hh
  replace e1 : obV (l : Int) (m : Int) (h : Int) = ((l + m * 4096 + h * 33554432 : Nat) : Int) := e1
  obtain ⟨e3, w3⟩ := sp0 n
  refine ⟨l + m * 4096 + h * 33554432 + (a * 32768 + b * 1048576) + (0), by clear e1 e3 w1 w3; omega, by clear e1 e3 w1 w3; omega, hd, fun d' hd' => ?_⟩
  obtain ⟨e2, w2⟩ := rg_dab d' a b hd' (by omega) (by omega)
  rw [enc3 e1 e2 e3 w1 w2 w3 (by decide) (by decide) (by decide) (by decide) (by decide)]
  clear e1 e2 e3 w1 w2 w3
  omega
theorem partK1 (l m : Nat) (hl : l < 128) (hm : m < 8) (d a b n : Int) (hr : rightB d a b n sh1 = true) : ∃ R : Nat, R + 3968 < 4294967296 ∧ R % 128 = l ∧ (0 ≤ d ∧ d < 32) ∧ ∀ d' : Nat, d' < 32 → encV (l : Int) (m : Int) ((0 : Nat) : Int) (d' : Int) a b n sh1 = ((R + d' * 128 : Nat) : Int) := by
  simp only [rightB, Bool.and_eq_true] at hr
  obtain ⟨⟨⟨h1, h2⟩, h3⟩, _⟩ := hr
  have hd := fit_t d h1
  obtain ⟨a0, a1⟩ := fit_t a h2
  obtain ⟨a, rfl⟩ := Int.eq_ofNat_of_zero_le a0
  obtain rfl := fit_f b h3
  obtain ⟨e1, w1⟩ := ob2 l m hl hm
  replace e1 : obV (l : Int) (m : Int) ((0 : Nat) : Int) = ((l + m * 4096 : Nat) : Int) := e1
  obtain ⟨e3, w3⟩ := sp1 n
  have u0 : pc n 0 12 < 4096 := pc_lt n 0 12
  generalize pc n 0 12 = y0 at *
  refine ⟨l + m * 4096 + (a * 32768) + (y0 * 1048576), by clear e1 e3 w1 w3; omega, by clear e1 e3 w1 w3; omega, hd, fun d' hd' => ?_⟩
  obtain ⟨e2, w2⟩ := rg_da d' a hd' (by omega)
  rw [enc3 e1 e2 e3 w1 w2 w3 (by decide) (by decide) (by decide) (by decide) (by decide)]
  clear e1 e2 e3 w1 w2 w3
  omega
theorem partK2 (l m q : Nat) (hl : l < 128) (hm : m < 8) (hq : q < 64) (d a b n : Int) (hr : rightB d a b n sh2 = true) : ∃ R : Nat, R + 3968 < 4294967296 ∧ R % 128 = l ∧ (0 ≤ d ∧ d < 32) ∧ ∀ d' : Nat, d' < 32 → encV (l : Int) (m : Int) ((2 * q : Nat) : Int) (d' : Int) a b n sh2 = ((R + d' * 128 : Nat) : Int) := by
  simp only [rightB, Bool.and_eq_true] at hr
  obtain ⟨⟨⟨h1, h2⟩, h3⟩, _⟩ := hr
  have hd := fit_t d h1
  obtain ⟨a0, a1⟩ := fit_t a h2
  obtain ⟨a, rfl⟩ := Int.eq_ofNat_of_zero_le a0
  obtain rfl := fit_f b h3
  obtain ⟨e1, w1⟩ := obH l m q hl hm hq
  replace e1 : obV (l : Int) (m : Int) ((2 * q : Nat) : Int) = ((l + m * 4096 + q * 67108864 : Nat) : Int) := e1
  obtain ⟨e3, w3⟩ := sp2 n
  have u0 : pc n 0 6 < 64 := pc_lt n 0 6
  generalize pc n 0 6 = y0 at *
  refine ⟨l + m * 4096 + q * 67108864 + (a * 32768) + (y0 * 1048576), by clear e1 e3 w1 w3; omega, by clear e1 e3 w1 w3; omega, hd, fun d' hd' => ?_⟩
  obtain ⟨e2, w2⟩ := rg_da d' a hd' (by omega)
  rw [enc3 e1 e2 e3 w1 w2 w3 (by decide) (by decide) (by decide) (by decide) (by decide)]
  clear e1 e2 e3 w1 w2 w3
  omega
theorem partK5 (l : Nat) (hl : l < 128) (d a b n : Int) (hr : rightB d a b n sh5 = true) : ∃ R : Nat, R + 3968 < 4294967296 ∧ R % 128 = l ∧ (0 ≤ d ∧ d < 32) ∧ ∀ d' : Nat, d' < 32 → encV (l : Int) ((0 : Nat) : Int) ((0 : Nat) : Int) (d' : Int) a b n sh5 = ((R + d' * 128 : Nat) : Int) := by
  simp only [rightB, Bool.and_eq_true] at hr
  obtain ⟨⟨⟨h1, h2⟩, h3⟩, _⟩ := hr
  have hd := fit_t d h1
  obtain rfl := fit_f a h2
  obtain rfl := fit_f b h3
  obtain ⟨e1, w1⟩ := ob1 l hl
  replace e1 : obV (l : Int) ((0 : Nat) : Int) ((0 : Nat) : Int) = ((l : Nat) : Int) := e1
  obtain ⟨e3, w3⟩ := sp5 n
  have u0 : pc n 12 20 < 1048576 := pc_lt n 12 20
  generalize pc n 12 20 = y0 at *
  refine ⟨l + (0) + (y0 * 4096), by clear e1 e3 w1 w3; omega, by clear e1 e3 w1 w3; omega, hd, fun d' hd' => ?_⟩
  obtain ⟨e2, w2⟩ := rg_d d' hd'
  rw [enc3 e1 e2 e3 w1 w2 w3 (by decide) (by decide) (by decide) (by decide) (by decide)]
  clear e1 e2 e3 w1 w2 w3
  omega
theorem partK6 (l : Nat) (hl : l < 128) (d a b n : Int) (hr : rightB d a b n sh6 = true) : ∃ R : Nat, R + 3968 < 4294967296 ∧ R % 128 = l ∧ (0 ≤ d ∧ d < 32) ∧ ∀ d' : Nat, d' < 32 → encV (l : Int) ((0 : Nat) : Int) ((0 : Nat) : Int) (d' : Int) a b n sh6 = ((R + d' * 128 : Nat) : Int) := by
  simp only [rightB, Bool.and_eq_true] at hr
  obtain ⟨⟨⟨h1, h2⟩, h3⟩, _⟩ := hr
  have hd := fit_t d h1
  obtain rfl := fit_f a h2
  obtain rfl := fit_f b h3
  obtain ⟨e1, w1⟩ := ob1 l hl
  replace e1 : obV (l : Int) ((0 : Nat) : Int) ((0 : Nat) : Int) = ((l : Nat) : Int) := e1
  obtain ⟨e3, w3⟩ := sp6 n
  have u0 : pc n 12 8 < 256 := pc_lt n 12 8
  have u1 : pc n 11 1 < 2 := pc_lt n 11 1
  have u2 : pc n 1 10 < 1024 := pc_lt n 1 10
  have u3 : pc n 20 1 < 2 := pc_lt n 20 1
  generalize pc n 12 8 = y0 at *
  generalize pc n 11 1 = y1 at *
  generalize pc n 1 10 = y2 at *
  generalize pc n 20 1 = y3 at *
  refine ⟨l + (0) + (y0 * 4096 + y1 * 1048576 + y2 * 2097152 + y3 * 2147483648), by clear e1 e3 w1 w3; omega, by clear e1 e3 w1 w3; omega, hd, fun d' hd' => ?_⟩
  obtain ⟨e2, w2⟩ := rg_d d' hd'
  rw [enc3 e1 e2 e3 w1 w2 w3 (by decide) (by decide) (by decide) (by decide) (by decide)]
  clear e1 e2 e3 w1 w2 w3
  omega
theorem part_all (o : Nat) (h1 : 1 ≤ o) (h2 : o ≤ 31) (h24 : o ≠ 24) (h25 : ¬ (25 ≤ o ∧ o ≤ 28)) (h31 : o ≠ 31) (d a b n : Int) (hr : rightB d a b n (T.sh (T.kd o)) = true) :
    ∃ R : Nat, R + 3968 < 4294967296 ∧ R % 128 = loN o ∧ (0 ≤ d ∧ d < 32) ∧ ∀ d' : Nat, d' < 32 → encV (T.lo o) (T.md o) (T.hg o) (d' : Int) a b n (T.sh (T.kd o)) = ((R + d' * 128 : Nat) : Int) := by
  rcases lt32 h1 h2 with rfl | rfl | rfl | rfl | rfl | rfl | rfl | rfl | rfl | rfl | rfl | rfl | rfl | rfl | rfl | rfl | rfl | rfl | rfl | rfl | rfl | rfl | rfl | rfl | rfl | rfl | rfl | rfl | rfl | rfl | rfl
  · exact partK0 51 0 0 (by decide) (by decide) (by decide) d a b n hr
  · exact partK0 51 0 32 (by decide) (by decide) (by decide) d a b n hr
  · exact partK0 51 0 1 (by decide) (by decide) (by decide) d a b n hr
  · exact partK0 51 4 1 (by decide) (by decide) (by decide) d a b n hr
  · exact partK0 51 6 1 (by decide) (by decide) (by decide) d a b n hr
  · exact partK0 51 7 0 (by decide) (by decide) (by decide) d a b n hr
  · exact partK0 51 6 0 (by decide) (by decide) (by decide) d a b n hr
  · exact partK0 51 4 0 (by decide) (by decide) (by decide) d a b n hr
  · exact partK0 51 2 0 (by decide) (by decide) (by decide) d a b n hr
  · exact partK0 51 3 0 (by decide) (by decide) (by decide) d a b n hr
  · exact partK0 51 1 0 (by decide) (by decide) (by decide) d a b n hr
  · exact partK0 51 5 0 (by decide) (by decide) (by decide) d a b n hr
  · exact partK0 51 5 32 (by decide) (by decide) (by decide) d a b n hr
  · exact partK1 19 0 (by decide) (by decide) d a b n hr
  · exact partK1 19 7 (by decide) (by decide) d a b n hr
  · exact partK1 19 6 (by decide) (by decide) d a b n hr
  · exact partK1 19 4 (by decide) (by decide) d a b n hr
  · exact partK1 19 2 (by decide) (by decide) d a b n hr
  · exact partK2 19 1 0 (by decide) (by decide) (by decide) d a b n hr
  · exact partK2 19 5 0 (by decide) (by decide) (by decide) d a b n hr
  · exact partK2 19 5 16 (by decide) (by decide) (by decide) d a b n hr
  · exact partK1 3 3 (by decide) (by decide) d a b n hr
  · exact partK1 103 0 (by decide) (by decide) d a b n hr
  · omega
  · omega
  · omega
  · omega
  · omega
  · exact partK5 55 (by decide) d a b n hr
  · exact partK6 111 (by decide) d a b n hr
  · omega
/-- Another register that is written may be, too. -/
theorem right_rd (o : Nat) (h1 : 1 ≤ o) (h2 : o ≤ 31) (h24 : o ≠ 24) (h25 : ¬ (25 ≤ o ∧ o ≤ 28)) (h31 : o ≠ 31) (d d' a b n : Int) (hr : rightB d a b n (T.sh (T.kd o)) = true) (h0 : 0 ≤ d') (h32 : d' < 32) : rightB d' a b n (T.sh (T.kd o)) = true := by
  have ht : (T.sh (T.kd o)).rd = true := by
    rcases lt32 h1 h2 with rfl | rfl | rfl | rfl | rfl | rfl | rfl | rfl | rfl | rfl | rfl | rfl | rfl | rfl | rfl | rfl | rfl | rfl | rfl | rfl | rfl | rfl | rfl | rfl | rfl | rfl | rfl | rfl | rfl | rfl | rfl <;> first | rfl | omega
  simp only [rightB, Bool.and_eq_true, ht] at hr ⊢
  exact ⟨⟨⟨fit_t_mk d' h0 h32, hr.1.1.2⟩, hr.1.2⟩, hr.2⟩
end Go.Proofs.YtchankbdfkgdiaaDoor
