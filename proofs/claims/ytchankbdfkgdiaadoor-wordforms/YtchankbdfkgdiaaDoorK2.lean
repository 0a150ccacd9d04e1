/- Plain facts: what Encode and Decode reckon, as sums of fields. -/
import Derived.Test.YtchankbdfkgdiaaDoorK1
namespace Go.Proofs.YtchankbdfkgdiaaDoor
open Go Go.RowKit

/-- One more field laid into a word. -/
theorem or_step {z v c t A : Nat} (hz : Within z A) (hv : v < 2 ^ c) (hd : A &&& ((2 ^ c - 1) * 2 ^ t) = 0) :
    z ||| v * 2 ^ t = z + v * 2 ^ t ∧ Within (z + v * 2 ^ t) (A ||| ((2 ^ c - 1) * 2 ^ t)) := by
  have h := or_add hz (within_field v c t hv) hd
  exact ⟨h, h ▸ hz.or (within_field v c t hv)⟩

theorem orN (a b : Nat) (ha : a < 4294967296) (hb : b < 4294967296) : bits .or .u32 (a : Int) (b : Int) = ((a ||| b : Nat) : Int) := by
  rw [or32 _ _ (by omega) (by omega) (by omega) (by omega)]; simp only [Int.toNat_natCast]

/-- obV, with its bits. -/
theorem obV_eq (l m h : Nat) (hl : l < 128) (hm : m < 8) (hh : h < 128) : obV l m h = ((l + m * 4096 + h * 33554432 : Nat) : Int) ∧ Within (l + m * 4096 + h * 33554432) 4261441663 := by
  have w0 : Within (l * 2 ^ 0) 127 := within_field l 7 0 hl
  simp only [Nat.pow_zero, Nat.mul_one] at w0
  obtain ⟨e1, w1⟩ := or_step (v := m) (c := 3) (t := 12) w0 hm (by decide)
  obtain ⟨e2, w2⟩ := or_step (v := h) (c := 7) (t := 25) w1 hh (by decide)
  refine ⟨?_, w2⟩
  unfold obV
  have i1 : bits .or .u32 (l : Int) ((m : Int) * 4096) = ((l + m * 2 ^ 12 : Nat) : Int) := by
    rw [show ((m : Int) * 4096) = ((m * 2 ^ 12 : Nat) : Int) by omega, orN _ _ (by omega) (by omega), e1]
  rw [i1, show ((h : Int) * 33554432) = ((h * 2 ^ 25 : Nat) : Int) by omega, orN _ _ (by omega) (by omega), e2]

theorem regsV_eq (d a b : Nat) (hd : d < 32) (ha : a < 32) (hb : b < 32) : regsV d a b = ((d * 128 + a * 32768 + b * 1048576 : Nat) : Int) := by
  have w0 : Within (d * 2 ^ 7) 3968 := within_field d 5 7 hd
  obtain ⟨e1, w1⟩ := or_step (v := a) (c := 5) (t := 15) w0 ha (by decide)
  obtain ⟨e2, w2⟩ := or_step (v := b) (c := 5) (t := 20) w1 hb (by decide)
  unfold regsV
  have i1 : bits .or .u32 ((d : Int) * 128) ((a : Int) * 32768) = ((d * 2 ^ 7 + a * 2 ^ 15 : Nat) : Int) := by
    rw [show ((d : Int) * 128) = ((d * 2 ^ 7 : Nat) : Int) by omega, show ((a : Int) * 32768) = ((a * 2 ^ 15 : Nat) : Int) by omega, orN _ _ (by omega) (by omega), e1]
  rw [i1, show ((b : Int) * 1048576) = ((b * 2 ^ 20 : Nat) : Int) by omega, orN _ _ (by omega) (by omega), e2]

theorem spr_eq (n : Int) (z f t c A : Nat) (hc : c ≤ 32) (ht : c + t ≤ 32) (hz : Within z A) (hlt : z < 4294967296) (hd : A &&& ((2 ^ c - 1) * 2 ^ t) = 0) :
    spr n z ((2 : Int) ^ f) ((2 : Int) ^ t) ((2 : Int) ^ c) = ((z + (n / (2 : Int) ^ f % (2 : Int) ^ c).toNat * 2 ^ t : Nat) : Int) ∧ Within (z + (n / (2 : Int) ^ f % (2 : Int) ^ c).toNat * 2 ^ t) (A ||| ((2 ^ c - 1) * 2 ^ t)) ∧ (n / (2 : Int) ^ f % (2 : Int) ^ c).toNat < 2 ^ c := by
  unfold spr
  rw [and64 _ c hc]
  have hp1 : 0 < (2 : Int) ^ c := by exact_mod_cast (Nat.two_pow_pos c)
  have h1 : 0 ≤ n / (2 : Int) ^ f % (2 : Int) ^ c := Int.emod_nonneg _ (by omega)
  have h2 : n / (2 : Int) ^ f % (2 : Int) ^ c < (2 : Int) ^ c := Int.emod_lt_of_pos _ hp1
  obtain ⟨v, hv⟩ := Int.eq_ofNat_of_zero_le h1
  rw [hv] at h2 ⊢
  have hv2 : v < 2 ^ c := by
    have : ((2 ^ c : Nat) : Int) = (2 : Int) ^ c := by simp
    omega
  simp only [Int.toNat_natCast]
  obtain ⟨e1, w1⟩ := or_step (v := v) (c := c) (t := t) hz hv2 hd
  have hvt : v * 2 ^ t < 4294967296 := by
    have : v * 2 ^ t < 2 ^ c * 2 ^ t := Nat.mul_lt_mul_of_pos_right hv2 (Nat.two_pow_pos t)
    rw [← Nat.pow_add] at this
    have h3 : (2 : Nat) ^ (c + t) ≤ 2 ^ 32 := Nat.pow_le_pow_right (by omega) ht
    omega
  have hv3 : v < 4294967296 := by
    have h3 : (2 : Nat) ^ c ≤ 2 ^ 32 := Nat.pow_le_pow_right (by omega) hc
    omega
  have ev : ((v : Int) % 4294967296 * (2 : Int) ^ t % 4294967296) = ((v * 2 ^ t : Nat) : Int) := by
    have e0 : (v : Int) % 4294967296 = v := by omega
    have : (v : Int) * (2 : Int) ^ t = ((v * 2 ^ t : Nat) : Int) := by simp
    rw [e0, this]
    omega
  rw [ev, orN _ _ hlt hvt, e1]
  exact ⟨rfl, w1, hv2⟩
end Go.Proofs.YtchankbdfkgdiaaDoor
