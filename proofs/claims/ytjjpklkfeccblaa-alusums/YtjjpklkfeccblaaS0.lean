/- Plain facts on what is divided, moved there and back, and, or, xor, for AluSums. -/
import Derived.Test.YtjjpklkfeccblaaM1
namespace Go.Proofs.Ytjjpklkfeccblaa
open Go Go.RowKit

theorem wrap64_add (y t : Int) : wrap64 (y + 18446744073709551616 * t) = wrap64 y := by unfold wrap64; omega
theorem wrap64_form (y : Int) : ∃ t, wrap64 y = y + 18446744073709551616 * t := ⟨-((y + 9223372036854775808) / 18446744073709551616), by unfold wrap64; omega⟩
theorem wrap64_self {a : Int} (h0 : -9223372036854775808 ≤ a) (h1 : a ≤ 9223372036854775807) : wrap64 a = a := by unfold wrap64; omega
theorem div_back (a b : Int) (h0 : -9223372036854775808 ≤ a) (h1 : a ≤ 9223372036854775807) : wrap64 (wrap64 (wrap64 (a.tdiv b) * b) + a.tmod b) = a := by
  obtain ⟨t, ht⟩ := wrap64_form (a.tdiv b)
  obtain ⟨u, hu⟩ := wrap64_form (wrap64 (a.tdiv b) * b)
  have e : wrap64 (wrap64 (a.tdiv b) * b) + a.tmod b = a + 18446744073709551616 * (t * b + u) := by
    rw [hu, ht]
    have := Int.tdiv_mul_add_tmod a b
    rw [Int.add_mul, Int.mul_assoc 18446744073709551616 t b]
    omega
  rw [e, wrap64_add, wrap64_self h0 h1]
theorem tmod_sign (a b : Int) (h : a.tmod b ≠ 0) : (a.tmod b < 0 ↔ a < 0) := by
  constructor
  · intro h1
    rcases Int.lt_or_le a 0 with h2 | h2
    · exact h2
    · have := Int.tmod_nonneg b h2
      omega
  · intro h1
    have h3 : 0 ≤ (-a).tmod b := Int.tmod_nonneg b (by omega)
    rw [Int.neg_tmod] at h3
    omega
theorem alu_div (a b : Int) (h : b ≠ 0) : aluV 4 a b = wrap64 (a.tdiv b) := by simp [aluV, quoD, h]
theorem alu_rem (a b : Int) (h : b ≠ 0) : aluV 5 a b = a.tmod b := by simp [aluV, remD, h]
theorem alu_add (a b : Int) : aluV 1 a b = wrap64 (a + b) := by simp [aluV]
theorem alu_sub (a b : Int) : aluV 2 a b = wrap64 (a - b) := by simp [aluV]
theorem alu_mul (a b : Int) : aluV 3 a b = wrap64 (a * b) := by simp [aluV]
theorem alu_and (a b : Int) : aluV 6 a b = bits .and .i64 a b := by simp [aluV]
theorem alu_or (a b : Int) : aluV 7 a b = bits .or .i64 a b := by simp [aluV]
theorem alu_xor (a b : Int) : aluV 8 a b = bits .xor .i64 a b := by simp [aluV]
theorem alu_slt (a b : Int) : aluV 9 a b = oneD (decide (a < b)) := by simp [aluV]
theorem alu_sll (a b : Int) : aluV 11 a b = wrap64 (a * (2 : Int) ^ (b % 64).toNat) := by simp [aluV]
theorem alu_srl (a b : Int) : aluV 12 a b = wrap64 (a % 18446744073709551616 / (2 : Int) ^ (b % 64).toNat) := by simp [aluV]
theorem alu_sra (a b : Int) : aluV 13 a b = a / (2 : Int) ^ (b % 64).toNat := by simp [aluV]

theorem pow_split (c : Nat) (h : c ≤ 63) : (2 : Int) ^ c * (2 : Int) ^ (64 - c) = 18446744073709551616 := by
  rw [← Int.pow_add]
  have : c + (64 - c) = 64 := by omega
  rw [this]; rfl
theorem sh_back (a k : Int) (k0 : 0 ≤ k) (k1 : k < 64) : aluV 12 (aluV 11 a k) k = aluV 6 a (aluV 12 (-1) k) := by
  rw [alu_srl, alu_sll, alu_and, alu_srl]
  have ek : (k % 64).toNat = k.toNat := by omega
  rw [ek]
  have hc : k.toNat ≤ 63 := by omega
  generalize k.toNat = c at hc
  have hs := pow_split c hc
  have hQ : ((2 ^ (64 - c) : Nat) : Int) = (2 : Int) ^ (64 - c) := by simp
  have hq1 : 1 ≤ (2 ^ (64 - c) : Nat) := Nat.one_le_two_pow
  have hP : 0 < (2 : Int) ^ c := by exact_mod_cast Nat.two_pow_pos c
  generalize hQ' : (2 : Int) ^ (64 - c) = Q at *
  generalize (2 : Int) ^ c = P at *
  have e1 : wrap64 (a * P) % 18446744073709551616 = P * (a % Q) := by
    have : wrap64 (a * P) % 18446744073709551616 = (a * P) % 18446744073709551616 := by unfold wrap64; omega
    rw [this, ← hs, Int.mul_comm a P, Int.mul_emod_mul_of_pos _ _ hP]
  rw [e1, Int.mul_ediv_cancel_left _ (by omega)]
  have e2 : ((-1 : Int) % 18446744073709551616) / P = Q - 1 := by
    have : ((-1 : Int) % 18446744073709551616) = P * (Q - 1) + (P - 1) := by
      rw [Int.mul_sub, hs]; omega
    rw [this, Int.mul_add_ediv_left _ _ (by omega), Int.ediv_eq_zero_of_lt (by omega) (by omega)]
    omega
  rw [e2, andN]
  have hQle : Q ≤ 18446744073709551616 := by
    rw [← hs]
    have : 1 * Q ≤ P * Q := Int.mul_le_mul_of_nonneg_right (by omega) (by omega)
    omega
  have e3 : (wrap64 (Q - 1) % 18446744073709551616).toNat = 2 ^ (64 - c) - 1 := by
    have : wrap64 (Q - 1) % 18446744073709551616 = Q - 1 := by unfold wrap64; omega
    rw [this, ← hQ]; omega
  rw [e3, Nat.and_two_pow_sub_one_eq_mod]
  have e4 : (((a % 18446744073709551616).toNat % 2 ^ (64 - c) : Nat) : Int) = a % Q := by
    rw [Int.natCast_emod, Int.toNat_of_nonneg (by omega), hQ]
    exact Int.emod_emod_of_dvd a ⟨P, by rw [Int.mul_comm]; exact hs.symm⟩
  rw [e4]
theorem sra_more (a k : Int) : aluV 13 a (wrap64 (k + 64)) = aluV 13 a k := by
  rw [alu_sra, alu_sra]
  have : wrap64 (k + 64) % 64 = k % 64 := by unfold wrap64; omega
  rw [this]
theorem sra_sign (a k : Int) : (aluV 13 a k < 0 ↔ a < 0) := by
  rw [alu_sra]
  have hP : 0 < (2 : Int) ^ (k % 64).toNat := by exact_mod_cast Nat.two_pow_pos _
  constructor
  · intro h
    rcases Int.lt_or_le a 0 with h2 | h2
    · exact h2
    · have := Int.ediv_nonneg h2 (Int.le_of_lt hP)
      omega
  · intro h
    exact Int.ediv_neg_of_neg_of_pos h hP
theorem sum_back (a b : Int) : aluV 1 (aluV 6 a b) (aluV 7 a b) = wrap64 (a + b) := by
  rw [alu_add, alu_and, alu_or, andN, orN]
  have h := and_or 64 (a % 18446744073709551616).toNat (b % 18446744073709551616).toNat (by omega)
  generalize (a % 18446744073709551616).toNat &&& (b % 18446744073709551616).toNat = p at *
  generalize (a % 18446744073709551616).toNat ||| (b % 18446744073709551616).toNat = q at *
  unfold wrap64
  omega
theorem dif_back (a b : Int) : aluV 2 (aluV 7 a b) (aluV 6 a b) = aluV 8 a b := by
  rw [alu_sub, alu_and, alu_or, alu_xor, xorV]
theorem xor_back (a b : Int) (h0 : -9223372036854775808 ≤ a) (h1 : a ≤ 9223372036854775807) : aluV 8 (aluV 8 a b) b = a := by
  rw [alu_xor, alu_xor, xorN, xorN]
  have hl : (a % 18446744073709551616).toNat ^^^ (b % 18446744073709551616).toNat < 2 ^ 64 := Nat.xor_lt_two_pow (by omega) (by omega)
  have e : (wrap64 (((a % 18446744073709551616).toNat ^^^ (b % 18446744073709551616).toNat : Nat) : Int) % 18446744073709551616).toNat = (a % 18446744073709551616).toNat ^^^ (b % 18446744073709551616).toNat := by
    generalize (a % 18446744073709551616).toNat ^^^ (b % 18446744073709551616).toNat = x at *
    unfold wrap64
    omega
  rw [e, Nat.xor_assoc, Nat.xor_self, Nat.xor_zero]
  unfold wrap64
  omega
theorem add_back (a b : Int) (h0 : -9223372036854775808 ≤ a) (h1 : a ≤ 9223372036854775807) : aluV 2 (aluV 1 a b) b = a := by
  rw [alu_sub, alu_add]; unfold wrap64; omega
theorem pick_any (a : Int) (w : World) : Calls Try.prog 7 #[.int .i64 a, .int .i64 64] w fun e w' => e = .returned (.int .i64 (a % 64)) ∧ w' = w := by
  have hu : (IntKind.u64.wrap a).tmod 64 = a % 64 := by rw [u64_wrap, Int.tmod_eq_emod_of_nonneg (by omega)]; omega
  go_enter Try.func7, Try.ntmps7
  go_wp2
  go_ret
  exact ⟨rfl, rfl⟩
end Go.Proofs.Ytjjpklkfeccblaa
