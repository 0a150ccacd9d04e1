/- Plain facts: what Decode reckons, as quotients and remainders; and which words are whose. -/
import Derived.Test.YtchankbdfkgdiaaDoorK3
namespace Go.Proofs.YtchankbdfkgdiaaDoor
open Go Go.RowKit

theorem orN64 (a b : Nat) (ha : a < 4294967296) (hb : b < 4294967296) : bits .or .i64 (a : Int) (b : Int) = ((a ||| b : Nat) : Int) := by
  rw [or64 _ _ (by omega) (by omega) (by omega) (by omega)]; simp only [Int.toNat_natCast]
theorem wrap_in (n : Int) (h : -9223372036854775808 ≤ n ∧ n ≤ 9223372036854775807) : wrap64 n = n := by unfold wrap64; omega

theorem gat_eq (x z f t c A : Nat) (hc : c ≤ 32) (hf : c + f ≤ 32) (hz : Within z A) (hlt : z < 4294967296) (hd : A &&& ((2 ^ c - 1) * 2 ^ f) = 0) :
    gat (x : Int) z ((2 : Int) ^ f) ((2 : Int) ^ t) ((2 : Int) ^ c) = ((z + (x / 2 ^ t % 2 ^ c) * 2 ^ f : Nat) : Int) ∧ Within (z + (x / 2 ^ t % 2 ^ c) * 2 ^ f) (A ||| ((2 ^ c - 1) * 2 ^ f)) := by
  unfold gat
  rw [and64 _ c hc]
  have hv : (x : Int) / (2 : Int) ^ t % (2 : Int) ^ c = ((x / 2 ^ t % 2 ^ c : Nat) : Int) := by simp
  rw [hv]
  have hv2 : x / 2 ^ t % 2 ^ c < 2 ^ c := Nat.mod_lt _ (Nat.two_pow_pos c)
  generalize x / 2 ^ t % 2 ^ c = v at *
  obtain ⟨e1, w1⟩ := or_step (v := v) (c := c) (t := f) hz hv2 hd
  have hvt : v * 2 ^ f < 4294967296 := by
    have : v * 2 ^ f < 2 ^ c * 2 ^ f := Nat.mul_lt_mul_of_pos_right hv2 (Nat.two_pow_pos f)
    rw [← Nat.pow_add] at this
    have h3 : (2 : Nat) ^ (c + f) ≤ 2 ^ 32 := Nat.pow_le_pow_right (by omega) hf
    omega
  have ev : (v : Int) * (2 : Int) ^ f = ((v * 2 ^ f : Nat) : Int) := by simp
  rw [ev, wrap_in _ (by omega), orN64 _ _ hlt hvt, e1]
  exact ⟨rfl, w1⟩
theorem gt0 (x : Nat) : gatTo (x : Int) sh0.ms 4 = ((0 : Nat) : Int) := by
  have w0 : Within 0 0 := rfl
  have b0 := within_le w0
  have r0 := gat_eq x (0) 0 0 0 0 (by omega) (by omega) w0 (by omega) (by decide)
  have w1 : Within (0 + (x / 1 % 1) * 1) 0 := r0.2
  have q0 : gat (x : Int) ((0 : Nat) : Int) 1 1 1 = ((0 + (x / 1 % 1) * 1 : Nat) : Int) := r0.1
  have b1 := within_le w1
  have r1 := gat_eq x (0 + (x / 1 % 1) * 1) 0 0 0 0 (by omega) (by omega) w1 (by omega) (by decide)
  have w2 : Within (0 + (x / 1 % 1) * 1 + (x / 1 % 1) * 1) 0 := r1.2
  have q1 : gat (x : Int) ((0 + (x / 1 % 1) * 1 : Nat) : Int) 1 1 1 = ((0 + (x / 1 % 1) * 1 + (x / 1 % 1) * 1 : Nat) : Int) := r1.1
  have b2 := within_le w2
  have r2 := gat_eq x (0 + (x / 1 % 1) * 1 + (x / 1 % 1) * 1) 0 0 0 0 (by omega) (by omega) w2 (by omega) (by decide)
  have w3 : Within (0 + (x / 1 % 1) * 1 + (x / 1 % 1) * 1 + (x / 1 % 1) * 1) 0 := r2.2
  have q2 : gat (x : Int) ((0 + (x / 1 % 1) * 1 + (x / 1 % 1) * 1 : Nat) : Int) 1 1 1 = ((0 + (x / 1 % 1) * 1 + (x / 1 % 1) * 1 + (x / 1 % 1) * 1 : Nat) : Int) := r2.1
  have b3 := within_le w3
  have r3 := gat_eq x (0 + (x / 1 % 1) * 1 + (x / 1 % 1) * 1 + (x / 1 % 1) * 1) 0 0 0 0 (by omega) (by omega) w3 (by omega) (by decide)
  have w4 : Within (0 + (x / 1 % 1) * 1 + (x / 1 % 1) * 1 + (x / 1 % 1) * 1 + (x / 1 % 1) * 1) 0 := r3.2
  have q3 : gat (x : Int) ((0 + (x / 1 % 1) * 1 + (x / 1 % 1) * 1 + (x / 1 % 1) * 1 : Nat) : Int) 1 1 1 = ((0 + (x / 1 % 1) * 1 + (x / 1 % 1) * 1 + (x / 1 % 1) * 1 + (x / 1 % 1) * 1 : Nat) : Int) := r3.1
  have e : gatTo (x : Int) sh0.ms 4 = ((0 + (x / 1 % 1) * 1 + (x / 1 % 1) * 1 + (x / 1 % 1) * 1 + (x / 1 % 1) * 1 : Nat) : Int) := by
    rw [← q3, ← q2, ← q1, ← q0]
    rfl
  rw [e]
  omega
theorem gt1 (x : Nat) : gatTo (x : Int) sh1.ms 4 = (((x / 1048576 % 4096) * 1 : Nat) : Int) := by
  have w0 : Within 0 0 := rfl
  have b0 := within_le w0
  have r0 := gat_eq x (0) 0 20 12 0 (by omega) (by omega) w0 (by omega) (by decide)
  have w1 : Within (0 + (x / 1048576 % 4096) * 1) 4095 := r0.2
  have q0 : gat (x : Int) ((0 : Nat) : Int) 1 1048576 4096 = ((0 + (x / 1048576 % 4096) * 1 : Nat) : Int) := r0.1
  have b1 := within_le w1
  have r1 := gat_eq x (0 + (x / 1048576 % 4096) * 1) 0 0 0 4095 (by omega) (by omega) w1 (by omega) (by decide)
  have w2 : Within (0 + (x / 1048576 % 4096) * 1 + (x / 1 % 1) * 1) 4095 := r1.2
  have q1 : gat (x : Int) ((0 + (x / 1048576 % 4096) * 1 : Nat) : Int) 1 1 1 = ((0 + (x / 1048576 % 4096) * 1 + (x / 1 % 1) * 1 : Nat) : Int) := r1.1
  have b2 := within_le w2
  have r2 := gat_eq x (0 + (x / 1048576 % 4096) * 1 + (x / 1 % 1) * 1) 0 0 0 4095 (by omega) (by omega) w2 (by omega) (by decide)
  have w3 : Within (0 + (x / 1048576 % 4096) * 1 + (x / 1 % 1) * 1 + (x / 1 % 1) * 1) 4095 := r2.2
  have q2 : gat (x : Int) ((0 + (x / 1048576 % 4096) * 1 + (x / 1 % 1) * 1 : Nat) : Int) 1 1 1 = ((0 + (x / 1048576 % 4096) * 1 + (x / 1 % 1) * 1 + (x / 1 % 1) * 1 : Nat) : Int) := r2.1
  have b3 := within_le w3
  have r3 := gat_eq x (0 + (x / 1048576 % 4096) * 1 + (x / 1 % 1) * 1 + (x / 1 % 1) * 1) 0 0 0 4095 (by omega) (by omega) w3 (by omega) (by decide)
  have w4 : Within (0 + (x / 1048576 % 4096) * 1 + (x / 1 % 1) * 1 + (x / 1 % 1) * 1 + (x / 1 % 1) * 1) 4095 := r3.2
  have q3 : gat (x : Int) ((0 + (x / 1048576 % 4096) * 1 + (x / 1 % 1) * 1 + (x / 1 % 1) * 1 : Nat) : Int) 1 1 1 = ((0 + (x / 1048576 % 4096) * 1 + (x / 1 % 1) * 1 + (x / 1 % 1) * 1 + (x / 1 % 1) * 1 : Nat) : Int) := r3.1
  have e : gatTo (x : Int) sh1.ms 4 = ((0 + (x / 1048576 % 4096) * 1 + (x / 1 % 1) * 1 + (x / 1 % 1) * 1 + (x / 1 % 1) * 1 : Nat) : Int) := by
    rw [← q3, ← q2, ← q1, ← q0]
    rfl
  rw [e]
  omega
theorem gt2 (x : Nat) : gatTo (x : Int) sh2.ms 4 = (((x / 1048576 % 64) * 1 : Nat) : Int) := by
  have w0 : Within 0 0 := rfl
  have b0 := within_le w0
  have r0 := gat_eq x (0) 0 20 6 0 (by omega) (by omega) w0 (by omega) (by decide)
  have w1 : Within (0 + (x / 1048576 % 64) * 1) 63 := r0.2
  have q0 : gat (x : Int) ((0 : Nat) : Int) 1 1048576 64 = ((0 + (x / 1048576 % 64) * 1 : Nat) : Int) := r0.1
  have b1 := within_le w1
  have r1 := gat_eq x (0 + (x / 1048576 % 64) * 1) 0 0 0 63 (by omega) (by omega) w1 (by omega) (by decide)
  have w2 : Within (0 + (x / 1048576 % 64) * 1 + (x / 1 % 1) * 1) 63 := r1.2
  have q1 : gat (x : Int) ((0 + (x / 1048576 % 64) * 1 : Nat) : Int) 1 1 1 = ((0 + (x / 1048576 % 64) * 1 + (x / 1 % 1) * 1 : Nat) : Int) := r1.1
  have b2 := within_le w2
  have r2 := gat_eq x (0 + (x / 1048576 % 64) * 1 + (x / 1 % 1) * 1) 0 0 0 63 (by omega) (by omega) w2 (by omega) (by decide)
  have w3 : Within (0 + (x / 1048576 % 64) * 1 + (x / 1 % 1) * 1 + (x / 1 % 1) * 1) 63 := r2.2
  have q2 : gat (x : Int) ((0 + (x / 1048576 % 64) * 1 + (x / 1 % 1) * 1 : Nat) : Int) 1 1 1 = ((0 + (x / 1048576 % 64) * 1 + (x / 1 % 1) * 1 + (x / 1 % 1) * 1 : Nat) : Int) := r2.1
  have b3 := within_le w3
  have r3 := gat_eq x (0 + (x / 1048576 % 64) * 1 + (x / 1 % 1) * 1 + (x / 1 % 1) * 1) 0 0 0 63 (by omega) (by omega) w3 (by omega) (by decide)
  have w4 : Within (0 + (x / 1048576 % 64) * 1 + (x / 1 % 1) * 1 + (x / 1 % 1) * 1 + (x / 1 % 1) * 1) 63 := r3.2
  have q3 : gat (x : Int) ((0 + (x / 1048576 % 64) * 1 + (x / 1 % 1) * 1 + (x / 1 % 1) * 1 : Nat) : Int) 1 1 1 = ((0 + (x / 1048576 % 64) * 1 + (x / 1 % 1) * 1 + (x / 1 % 1) * 1 + (x / 1 % 1) * 1 : Nat) : Int) := r3.1
  have e : gatTo (x : Int) sh2.ms 4 = ((0 + (x / 1048576 % 64) * 1 + (x / 1 % 1) * 1 + (x / 1 % 1) * 1 + (x / 1 % 1) * 1 : Nat) : Int) := by
    rw [← q3, ← q2, ← q1, ← q0]
    rfl
  rw [e]
  omega
theorem gt3 (x : Nat) : gatTo (x : Int) sh3.ms 4 = (((x / 128 % 32) * 1 + (x / 33554432 % 128) * 32 : Nat) : Int) := by
  have w0 : Within 0 0 := rfl
  have b0 := within_le w0
  have r0 := gat_eq x (0) 0 7 5 0 (by omega) (by omega) w0 (by omega) (by decide)
  have w1 : Within (0 + (x / 128 % 32) * 1) 31 := r0.2
  have q0 : gat (x : Int) ((0 : Nat) : Int) 1 128 32 = ((0 + (x / 128 % 32) * 1 : Nat) : Int) := r0.1
  have b1 := within_le w1
  have r1 := gat_eq x (0 + (x / 128 % 32) * 1) 5 25 7 31 (by omega) (by omega) w1 (by omega) (by decide)
  have w2 : Within (0 + (x / 128 % 32) * 1 + (x / 33554432 % 128) * 32) 4095 := r1.2
  have q1 : gat (x : Int) ((0 + (x / 128 % 32) * 1 : Nat) : Int) 32 33554432 128 = ((0 + (x / 128 % 32) * 1 + (x / 33554432 % 128) * 32 : Nat) : Int) := r1.1
  have b2 := within_le w2
  have r2 := gat_eq x (0 + (x / 128 % 32) * 1 + (x / 33554432 % 128) * 32) 0 0 0 4095 (by omega) (by omega) w2 (by omega) (by decide)
  have w3 : Within (0 + (x / 128 % 32) * 1 + (x / 33554432 % 128) * 32 + (x / 1 % 1) * 1) 4095 := r2.2
  have q2 : gat (x : Int) ((0 + (x / 128 % 32) * 1 + (x / 33554432 % 128) * 32 : Nat) : Int) 1 1 1 = ((0 + (x / 128 % 32) * 1 + (x / 33554432 % 128) * 32 + (x / 1 % 1) * 1 : Nat) : Int) := r2.1
  have b3 := within_le w3
  have r3 := gat_eq x (0 + (x / 128 % 32) * 1 + (x / 33554432 % 128) * 32 + (x / 1 % 1) * 1) 0 0 0 4095 (by omega) (by omega) w3 (by omega) (by decide)
  have w4 : Within (0 + (x / 128 % 32) * 1 + (x / 33554432 % 128) * 32 + (x / 1 % 1) * 1 + (x / 1 % 1) * 1) 4095 := r3.2
  have q3 : gat (x : Int) ((0 + (x / 128 % 32) * 1 + (x / 33554432 % 128) * 32 + (x / 1 % 1) * 1 : Nat) : Int) 1 1 1 = ((0 + (x / 128 % 32) * 1 + (x / 33554432 % 128) * 32 + (x / 1 % 1) * 1 + (x / 1 % 1) * 1 : Nat) : Int) := r3.1
  have e : gatTo (x : Int) sh3.ms 4 = ((0 + (x / 128 % 32) * 1 + (x / 33554432 % 128) * 32 + (x / 1 % 1) * 1 + (x / 1 % 1) * 1 : Nat) : Int) := by
    rw [← q3, ← q2, ← q1, ← q0]
    rfl
  rw [e]
  omega
theorem gt4 (x : Nat) : gatTo (x : Int) sh4.ms 4 = (((x / 128 % 2) * 2048 + (x / 256 % 16) * 2 + (x / 33554432 % 64) * 32 + (x / 2147483648 % 2) * 4096 : Nat) : Int) := by
  have w0 : Within 0 0 := rfl
  have b0 := within_le w0
  have r0 := gat_eq x (0) 11 7 1 0 (by omega) (by omega) w0 (by omega) (by decide)
  have w1 : Within (0 + (x / 128 % 2) * 2048) 2048 := r0.2
  have q0 : gat (x : Int) ((0 : Nat) : Int) 2048 128 2 = ((0 + (x / 128 % 2) * 2048 : Nat) : Int) := r0.1
  have b1 := within_le w1
  have r1 := gat_eq x (0 + (x / 128 % 2) * 2048) 1 8 4 2048 (by omega) (by omega) w1 (by omega) (by decide)
  have w2 : Within (0 + (x / 128 % 2) * 2048 + (x / 256 % 16) * 2) 2078 := r1.2
  have q1 : gat (x : Int) ((0 + (x / 128 % 2) * 2048 : Nat) : Int) 2 256 16 = ((0 + (x / 128 % 2) * 2048 + (x / 256 % 16) * 2 : Nat) : Int) := r1.1
  have b2 := within_le w2
  have r2 := gat_eq x (0 + (x / 128 % 2) * 2048 + (x / 256 % 16) * 2) 5 25 6 2078 (by omega) (by omega) w2 (by omega) (by decide)
  have w3 : Within (0 + (x / 128 % 2) * 2048 + (x / 256 % 16) * 2 + (x / 33554432 % 64) * 32) 4094 := r2.2
  have q2 : gat (x : Int) ((0 + (x / 128 % 2) * 2048 + (x / 256 % 16) * 2 : Nat) : Int) 32 33554432 64 = ((0 + (x / 128 % 2) * 2048 + (x / 256 % 16) * 2 + (x / 33554432 % 64) * 32 : Nat) : Int) := r2.1
  have b3 := within_le w3
  have r3 := gat_eq x (0 + (x / 128 % 2) * 2048 + (x / 256 % 16) * 2 + (x / 33554432 % 64) * 32) 12 31 1 4094 (by omega) (by omega) w3 (by omega) (by decide)
  have w4 : Within (0 + (x / 128 % 2) * 2048 + (x / 256 % 16) * 2 + (x / 33554432 % 64) * 32 + (x / 2147483648 % 2) * 4096) 8190 := r3.2
  have q3 : gat (x : Int) ((0 + (x / 128 % 2) * 2048 + (x / 256 % 16) * 2 + (x / 33554432 % 64) * 32 : Nat) : Int) 4096 2147483648 2 = ((0 + (x / 128 % 2) * 2048 + (x / 256 % 16) * 2 + (x / 33554432 % 64) * 32 + (x / 2147483648 % 2) * 4096 : Nat) : Int) := r3.1
  have e : gatTo (x : Int) sh4.ms 4 = ((0 + (x / 128 % 2) * 2048 + (x / 256 % 16) * 2 + (x / 33554432 % 64) * 32 + (x / 2147483648 % 2) * 4096 : Nat) : Int) := by
    rw [← q3, ← q2, ← q1, ← q0]
    rfl
  rw [e]
  omega
theorem gt5 (x : Nat) : gatTo (x : Int) sh5.ms 4 = (((x / 4096 % 1048576) * 4096 : Nat) : Int) := by
  have w0 : Within 0 0 := rfl
  have b0 := within_le w0
  have r0 := gat_eq x (0) 12 12 20 0 (by omega) (by omega) w0 (by omega) (by decide)
  have w1 : Within (0 + (x / 4096 % 1048576) * 4096) 4294963200 := r0.2
  have q0 : gat (x : Int) ((0 : Nat) : Int) 4096 4096 1048576 = ((0 + (x / 4096 % 1048576) * 4096 : Nat) : Int) := r0.1
  have b1 := within_le w1
  have r1 := gat_eq x (0 + (x / 4096 % 1048576) * 4096) 0 0 0 4294963200 (by omega) (by omega) w1 (by omega) (by decide)
  have w2 : Within (0 + (x / 4096 % 1048576) * 4096 + (x / 1 % 1) * 1) 4294963200 := r1.2
  have q1 : gat (x : Int) ((0 + (x / 4096 % 1048576) * 4096 : Nat) : Int) 1 1 1 = ((0 + (x / 4096 % 1048576) * 4096 + (x / 1 % 1) * 1 : Nat) : Int) := r1.1
  have b2 := within_le w2
  have r2 := gat_eq x (0 + (x / 4096 % 1048576) * 4096 + (x / 1 % 1) * 1) 0 0 0 4294963200 (by omega) (by omega) w2 (by omega) (by decide)
  have w3 : Within (0 + (x / 4096 % 1048576) * 4096 + (x / 1 % 1) * 1 + (x / 1 % 1) * 1) 4294963200 := r2.2
  have q2 : gat (x : Int) ((0 + (x / 4096 % 1048576) * 4096 + (x / 1 % 1) * 1 : Nat) : Int) 1 1 1 = ((0 + (x / 4096 % 1048576) * 4096 + (x / 1 % 1) * 1 + (x / 1 % 1) * 1 : Nat) : Int) := r2.1
  have b3 := within_le w3
  have r3 := gat_eq x (0 + (x / 4096 % 1048576) * 4096 + (x / 1 % 1) * 1 + (x / 1 % 1) * 1) 0 0 0 4294963200 (by omega) (by omega) w3 (by omega) (by decide)
  have w4 : Within (0 + (x / 4096 % 1048576) * 4096 + (x / 1 % 1) * 1 + (x / 1 % 1) * 1 + (x / 1 % 1) * 1) 4294963200 := r3.2
  have q3 : gat (x : Int) ((0 + (x / 4096 % 1048576) * 4096 + (x / 1 % 1) * 1 + (x / 1 % 1) * 1 : Nat) : Int) 1 1 1 = ((0 + (x / 4096 % 1048576) * 4096 + (x / 1 % 1) * 1 + (x / 1 % 1) * 1 + (x / 1 % 1) * 1 : Nat) : Int) := r3.1
  have e : gatTo (x : Int) sh5.ms 4 = ((0 + (x / 4096 % 1048576) * 4096 + (x / 1 % 1) * 1 + (x / 1 % 1) * 1 + (x / 1 % 1) * 1 : Nat) : Int) := by
    rw [← q3, ← q2, ← q1, ← q0]
    rfl
  rw [e]
  omega
theorem gt6 (x : Nat) : gatTo (x : Int) sh6.ms 4 = (((x / 4096 % 256) * 4096 + (x / 1048576 % 2) * 2048 + (x / 2097152 % 1024) * 2 + (x / 2147483648 % 2) * 1048576 : Nat) : Int) := by
  have w0 : Within 0 0 := rfl
  have b0 := within_le w0
  have r0 := gat_eq x (0) 12 12 8 0 (by omega) (by omega) w0 (by omega) (by decide)
  have w1 : Within (0 + (x / 4096 % 256) * 4096) 1044480 := r0.2
  have q0 : gat (x : Int) ((0 : Nat) : Int) 4096 4096 256 = ((0 + (x / 4096 % 256) * 4096 : Nat) : Int) := r0.1
  have b1 := within_le w1
  have r1 := gat_eq x (0 + (x / 4096 % 256) * 4096) 11 20 1 1044480 (by omega) (by omega) w1 (by omega) (by decide)
  have w2 : Within (0 + (x / 4096 % 256) * 4096 + (x / 1048576 % 2) * 2048) 1046528 := r1.2
  have q1 : gat (x : Int) ((0 + (x / 4096 % 256) * 4096 : Nat) : Int) 2048 1048576 2 = ((0 + (x / 4096 % 256) * 4096 + (x / 1048576 % 2) * 2048 : Nat) : Int) := r1.1
  have b2 := within_le w2
  have r2 := gat_eq x (0 + (x / 4096 % 256) * 4096 + (x / 1048576 % 2) * 2048) 1 21 10 1046528 (by omega) (by omega) w2 (by omega) (by decide)
  have w3 : Within (0 + (x / 4096 % 256) * 4096 + (x / 1048576 % 2) * 2048 + (x / 2097152 % 1024) * 2) 1048574 := r2.2
  have q2 : gat (x : Int) ((0 + (x / 4096 % 256) * 4096 + (x / 1048576 % 2) * 2048 : Nat) : Int) 2 2097152 1024 = ((0 + (x / 4096 % 256) * 4096 + (x / 1048576 % 2) * 2048 + (x / 2097152 % 1024) * 2 : Nat) : Int) := r2.1
  have b3 := within_le w3
  have r3 := gat_eq x (0 + (x / 4096 % 256) * 4096 + (x / 1048576 % 2) * 2048 + (x / 2097152 % 1024) * 2) 20 31 1 1048574 (by omega) (by omega) w3 (by omega) (by decide)
  have w4 : Within (0 + (x / 4096 % 256) * 4096 + (x / 1048576 % 2) * 2048 + (x / 2097152 % 1024) * 2 + (x / 2147483648 % 2) * 1048576) 2097150 := r3.2
  have q3 : gat (x : Int) ((0 + (x / 4096 % 256) * 4096 + (x / 1048576 % 2) * 2048 + (x / 2097152 % 1024) * 2 : Nat) : Int) 1048576 2147483648 2 = ((0 + (x / 4096 % 256) * 4096 + (x / 1048576 % 2) * 2048 + (x / 2097152 % 1024) * 2 + (x / 2147483648 % 2) * 1048576 : Nat) : Int) := r3.1
  have e : gatTo (x : Int) sh6.ms 4 = ((0 + (x / 4096 % 256) * 4096 + (x / 1048576 % 2) * 2048 + (x / 2097152 % 1024) * 2 + (x / 2147483648 % 2) * 1048576 : Nat) : Int) := by
    rw [← q3, ← q2, ← q1, ← q0]
    rfl
  rw [e]
  omega
theorem gt7 (x : Nat) : gatTo (x : Int) sh7.ms 4 = ((0 : Nat) : Int) := by
  have w0 : Within 0 0 := rfl
  have b0 := within_le w0
  have r0 := gat_eq x (0) 0 0 0 0 (by omega) (by omega) w0 (by omega) (by decide)
  have w1 : Within (0 + (x / 1 % 1) * 1) 0 := r0.2
  have q0 : gat (x : Int) ((0 : Nat) : Int) 1 1 1 = ((0 + (x / 1 % 1) * 1 : Nat) : Int) := r0.1
  have b1 := within_le w1
  have r1 := gat_eq x (0 + (x / 1 % 1) * 1) 0 0 0 0 (by omega) (by omega) w1 (by omega) (by decide)
  have w2 : Within (0 + (x / 1 % 1) * 1 + (x / 1 % 1) * 1) 0 := r1.2
  have q1 : gat (x : Int) ((0 + (x / 1 % 1) * 1 : Nat) : Int) 1 1 1 = ((0 + (x / 1 % 1) * 1 + (x / 1 % 1) * 1 : Nat) : Int) := r1.1
  have b2 := within_le w2
  have r2 := gat_eq x (0 + (x / 1 % 1) * 1 + (x / 1 % 1) * 1) 0 0 0 0 (by omega) (by omega) w2 (by omega) (by decide)
  have w3 : Within (0 + (x / 1 % 1) * 1 + (x / 1 % 1) * 1 + (x / 1 % 1) * 1) 0 := r2.2
  have q2 : gat (x : Int) ((0 + (x / 1 % 1) * 1 + (x / 1 % 1) * 1 : Nat) : Int) 1 1 1 = ((0 + (x / 1 % 1) * 1 + (x / 1 % 1) * 1 + (x / 1 % 1) * 1 : Nat) : Int) := r2.1
  have b3 := within_le w3
  have r3 := gat_eq x (0 + (x / 1 % 1) * 1 + (x / 1 % 1) * 1 + (x / 1 % 1) * 1) 0 0 0 0 (by omega) (by omega) w3 (by omega) (by decide)
  have w4 : Within (0 + (x / 1 % 1) * 1 + (x / 1 % 1) * 1 + (x / 1 % 1) * 1 + (x / 1 % 1) * 1) 0 := r3.2
  have q3 : gat (x : Int) ((0 + (x / 1 % 1) * 1 + (x / 1 % 1) * 1 + (x / 1 % 1) * 1 : Nat) : Int) 1 1 1 = ((0 + (x / 1 % 1) * 1 + (x / 1 % 1) * 1 + (x / 1 % 1) * 1 + (x / 1 % 1) * 1 : Nat) : Int) := r3.1
  have e : gatTo (x : Int) sh7.ms 4 = ((0 + (x / 1 % 1) * 1 + (x / 1 % 1) * 1 + (x / 1 % 1) * 1 + (x / 1 % 1) * 1 : Nat) : Int) := by
    rw [← q3, ← q2, ← q1, ← q0]
    rfl
  rw [e]
  omega

theorem and_split {A B C : Nat} (x : Nat) (hC : A ||| B = C) (hd : A &&& B = 0) : x &&& C = (x &&& A) + (x &&& B) := by
  have wa : Within (x &&& A) A := by unfold Within; rw [Nat.and_assoc, Nat.and_self]
  have wb : Within (x &&& B) B := by unfold Within; rw [Nat.and_assoc, Nat.and_self]
  rw [← or_add wa wb hd, ← Nat.and_or_distrib_left, hC]
theorem a_low (x : Nat) : x &&& 127 = x % 128 := Nat.and_two_pow_sub_one_eq_mod x 7
theorem a_mid (x : Nat) : x &&& 28672 = (x / 4096 % 8) * 4096 := and_field x 3 12
theorem a_high (x : Nat) : x &&& 4261412864 = (x / 33554432 % 128) * 33554432 := and_field x 7 25
theorem a_hi6 (x : Nat) : x &&& 4227858432 = (x / 67108864 % 64) * 67108864 := and_field x 6 26
theorem a_lm (x : Nat) : x &&& 28799 = x % 128 + (x / 4096 % 8) * 4096 := by
  rw [and_split x (show 127 ||| 28672 = 28799 by decide) (by decide), a_low, a_mid]
theorem a_R (x : Nat) : x &&& 4261441663 = x % 128 + (x / 4096 % 8) * 4096 + (x / 33554432 % 128) * 33554432 := by
  rw [and_split x (show 28799 ||| 4261412864 = 4261441663 by decide) (by decide), a_lm, a_high]
theorem a_H (x : Nat) : x &&& 4227887231 = x % 128 + (x / 4096 % 8) * 4096 + (x / 67108864 % 64) * 67108864 := by
  rw [and_split x (show 28799 ||| 4227858432 = 4227887231 by decide) (by decide), a_lm, a_hi6]
theorem a_E (x : Nat) (h : x < 4294967296) : x &&& 4294967295 = x := by
  rw [show (4294967295 : Nat) = 2 ^ 32 - 1 by decide, Nat.and_two_pow_sub_one_eq_mod, Nat.mod_eq_of_lt h]
theorem reg_eq (x p : Nat) (hx : x < 4294967296) : bits .and .u32 ((x : Int) / (p : Int)) 31 = ((x / p % 32 : Nat) : Int) := by
  have hq : x / p < 4294967296 := Nat.lt_of_le_of_lt (Nat.div_le_self x p) hx
  have e : (x : Int) / (p : Int) = ((x / p : Nat) : Int) := by simp
  rw [e]
  clear e
  generalize x / p = q at *
  rw [and32 _ _ (by omega) (by omega) (by omega) (by omega)]
  simp only [Int.toNat_natCast]
  rw [show ((31 : Int).toNat) = 2 ^ 5 - 1 by decide, Nat.and_two_pow_sub_one_eq_mod]
theorem regV_t (x p : Nat) (hx : x < 4294967296) : regV (x : Int) (p : Int) true = ((x / p % 32 : Nat) : Int) := by
  rw [regV, if_pos rfl, reg_eq x p hx]
theorem regV_f (x p : Int) : regV x p false = 0 := rfl
end Go.Proofs.YtchankbdfkgdiaaDoor
