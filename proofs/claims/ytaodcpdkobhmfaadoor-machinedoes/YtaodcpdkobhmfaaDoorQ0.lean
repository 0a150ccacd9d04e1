/- Plain facts on numbers of 64 bits: what is moved, halved, divided, and or, xor. -/
import Derived.Test.YtaodcpdkobhmfaaDoorMA
import Derived.WalkKit
import Derived.ProofKit
import Derived.OpenShut
namespace Go.Proofs.YtaodcpdkobhmfaaDoor.Alu
open Go Go.RowKit

def quoD (a b : Int) : Int := if b = 0 then -1 else wrap64 (a.tdiv b)
def remD (a b : Int) : Int := if b = 0 then a else a.tmod b
def oneD (y : Bool) : Int := if y = true then 1 else 0
theorem i64_range {x : Int} (h : (Lit.int .i64 x).wf = true) : -9223372036854775808 ≤ x ∧ x ≤ 9223372036854775807 := by
  simp only [Lit.wf, IntKind.min, IntKind.max, IntKind.signed, IntKind.bits, Bool.and_eq_true] at h
  simp at h
  omega
theorem toNat_ofInt64 (a : Int) : (BitVec.ofInt 64 a).toNat = (a % 18446744073709551616).toNat := by
  rw [BitVec.toNat_ofInt]; rfl
theorem u64_wrap (a : Int) : IntKind.u64.wrap a = a % 18446744073709551616 := by
  simp [IntKind.wrap, IntKind.bits, IntKind.signed]
theorem bitsNat (op : BinOp) (a b : Int) (f : Nat → Nat → Nat) (h : bits op .i64 a b = IntKind.i64.wrap ((f (BitVec.ofInt 64 a).toNat (BitVec.ofInt 64 b).toNat : Nat) : Int)) :
    bits op .i64 a b = wrap64 ((f (a % 18446744073709551616).toNat (b % 18446744073709551616).toNat : Nat) : Int) := by
  rw [h, toNat_ofInt64, toNat_ofInt64, IntKind.wrap_i64, wrap64]
theorem andN (a b : Int) : bits .and .i64 a b = wrap64 (((a % 18446744073709551616).toNat &&& (b % 18446744073709551616).toNat : Nat) : Int) := by
  refine bitsNat .and a b (· &&& ·) ?_
  have e : bits .and .i64 a b = IntKind.i64.wrap ((BitVec.ofInt 64 a &&& BitVec.ofInt 64 b).toNat : Int) := rfl
  rw [e, BitVec.toNat_and]
theorem orN (a b : Int) : bits .or .i64 a b = wrap64 (((a % 18446744073709551616).toNat ||| (b % 18446744073709551616).toNat : Nat) : Int) := by
  refine bitsNat .or a b (· ||| ·) ?_
  have e : bits .or .i64 a b = IntKind.i64.wrap ((BitVec.ofInt 64 a ||| BitVec.ofInt 64 b).toNat : Int) := rfl
  rw [e, BitVec.toNat_or]
theorem xorN (a b : Int) : bits .xor .i64 a b = wrap64 (((a % 18446744073709551616).toNat ^^^ (b % 18446744073709551616).toNat : Nat) : Int) := by
  refine bitsNat .xor a b (· ^^^ ·) ?_
  have e : bits .xor .i64 a b = IntKind.i64.wrap ((BitVec.ofInt 64 a ^^^ BitVec.ofInt 64 b).toNat : Int) := rfl
  rw [e, BitVec.toNat_xor]
/-- Both and either together are the sum; either without both is the one or the other. -/
theorem and_or (n : Nat) : ∀ x y : Nat, x < 2 ^ n → (x &&& y) + (x ||| y) = x + y := by
  induction n with
  | zero => intro x y hx; obtain rfl : x = 0 := by omega
            simp
  | succ n ih =>
    intro x y hx
    have h := ih (x / 2) (y / 2) (by omega)
    have e1 : (x &&& y) / 2 = x / 2 &&& y / 2 := Nat.and_div_two
    have e2 : (x ||| y) / 2 = x / 2 ||| y / 2 := Nat.or_div_two
    have m1 : (x &&& y) % 2 = (x % 2 &&& y % 2) := by simpa using Nat.and_mod_two_pow (a := x) (b := y) (n := 1)
    have m2 : (x ||| y) % 2 = (x % 2 ||| y % 2) := by simpa using Nat.or_mod_two_pow (a := x) (b := y) (n := 1)
    have hx2 : x % 2 = 0 ∨ x % 2 = 1 := by omega
    have hy2 : y % 2 = 0 ∨ y % 2 = 1 := by omega
    have k : (x &&& y) % 2 + (x ||| y) % 2 = x % 2 + y % 2 := by
      rw [m1, m2]; rcases hx2 with a | a <;> rcases hy2 with b | b <;> rw [a, b] <;> rfl
    omega
theorem and_xor (n : Nat) : ∀ x y : Nat, x < 2 ^ n → (x &&& y) + (x ^^^ y) = (x ||| y) := by
  induction n with
  | zero => intro x y hx; obtain rfl : x = 0 := by omega
            simp
  | succ n ih =>
    intro x y hx
    have h := ih (x / 2) (y / 2) (by omega)
    have e1 : (x &&& y) / 2 = x / 2 &&& y / 2 := Nat.and_div_two
    have e2 : (x ||| y) / 2 = x / 2 ||| y / 2 := Nat.or_div_two
    have e3 : (x ^^^ y) / 2 = x / 2 ^^^ y / 2 := Nat.xor_div_two
    have m1 : (x &&& y) % 2 = (x % 2 &&& y % 2) := by simpa using Nat.and_mod_two_pow (a := x) (b := y) (n := 1)
    have m2 : (x ||| y) % 2 = (x % 2 ||| y % 2) := by simpa using Nat.or_mod_two_pow (a := x) (b := y) (n := 1)
    have m3 : (x ^^^ y) % 2 = (x % 2 ^^^ y % 2) := by simpa using Nat.xor_mod_two_pow (a := x) (b := y) (n := 1)
    have hx2 : x % 2 = 0 ∨ x % 2 = 1 := by omega
    have hy2 : y % 2 = 0 ∨ y % 2 = 1 := by omega
    have k : (x &&& y) % 2 + (x ^^^ y) % 2 = (x ||| y) % 2 := by
      rw [m1, m2, m3]; rcases hx2 with a | a <;> rcases hy2 with b | b <;> rw [a, b] <;> rfl
    omega
theorem xorV (a b : Int) : wrap64 (bits .or .i64 a b - bits .and .i64 a b) = bits .xor .i64 a b := by
  rw [andN, orN, xorN]
  have h := and_xor 64 (a % 18446744073709551616).toNat (b % 18446744073709551616).toNat (by omega)
  generalize (a % 18446744073709551616).toNat &&& (b % 18446744073709551616).toNat = p at *
  generalize (a % 18446744073709551616).toNat ||| (b % 18446744073709551616).toNat = q at *
  generalize (a % 18446744073709551616).toNat ^^^ (b % 18446744073709551616).toNat = r at *
  subst h
  unfold wrap64
  omega
theorem and63 (b : Int) : bits .and .i64 b 63 = b % 64 := by
  rw [andN]
  have e : ((63 : Int) % 18446744073709551616).toNat = 2 ^ 6 - 1 := by decide
  rw [e, Nat.and_two_pow_sub_one_eq_mod]
  unfold wrap64
  omega
theorem and1 (b : Int) : bits .and .i64 b 1 = b % 2 := by
  rw [andN]
  have e : ((1 : Int) % 18446744073709551616).toNat = 2 ^ 1 - 1 := by decide
  rw [e, Nat.and_two_pow_sub_one_eq_mod]
  unfold wrap64
  omega
theorem dbl (y : Int) : wrap64 (wrap64 y * 2) = wrap64 (y * 2) := by unfold wrap64; omega
theorem hlf (y : Int) (h0 : -9223372036854775808 ≤ y) (h1 : y ≤ 9223372036854775807) : wrap64 ((wrap64 (y - y % 2)).tdiv 2) = y / 2 := by
  have e : wrap64 (y - y % 2) = 2 * (y / 2) := by unfold wrap64; omega
  rw [e, Int.mul_tdiv_cancel_left _ (by omega)]
  unfold wrap64; omega

/-- The machine's quotient, by what is above 0. -/
def absU (a : Int) : Int := if a < 0 then (-(a % 18446744073709551616)) % 18446744073709551616 else a % 18446744073709551616
theorem absU_eq (a : Int) (h0 : -9223372036854775808 ≤ a) (h1 : a ≤ 9223372036854775807) : absU a = (a.natAbs : Int) := by
  unfold absU; split <;> omega
theorem quoV (a b : Int) (ha0 : -9223372036854775808 ≤ a) (ha1 : a ≤ 9223372036854775807) (hb0 : -9223372036854775808 ≤ b) (hb1 : b ≤ 9223372036854775807) (hb : b ≠ 0) :
    (if (decide (a < 0) != decide (b < 0)) = true then wrap64 (-(wrap64 (absU a / absU b))) else wrap64 (absU a / absU b)) = wrap64 (a.tdiv b) := by
  rw [absU_eq a ha0 ha1, absU_eq b hb0 hb1]
  have hq : ((a.natAbs : Int) / (b.natAbs : Int)) = ((a.natAbs / b.natAbs : Nat) : Int) := (Int.natCast_ediv _ _).symm
  by_cases h1 : a < 0 <;> by_cases h2 : b < 0 <;> simp [h1, h2]
  · have : a.tdiv b = (a.natAbs : Int) / (b.natAbs : Int) := by
      obtain ⟨x, rfl⟩ : ∃ x, a = -x := ⟨-a, by omega⟩
      obtain ⟨y, rfl⟩ : ∃ y, b = -y := ⟨-b, by omega⟩
      rw [Int.neg_tdiv, Int.tdiv_neg, Int.neg_neg, Int.tdiv_eq_ediv_of_nonneg (by omega), Int.natAbs_neg, Int.natAbs_neg, Int.natAbs_of_nonneg (by omega), Int.natAbs_of_nonneg (by omega)]
    rw [this]
  · have : a.tdiv b = -((a.natAbs : Int) / (b.natAbs : Int)) := by
      obtain ⟨x, rfl⟩ : ∃ x, a = -x := ⟨-a, by omega⟩
      rw [Int.neg_tdiv, Int.tdiv_eq_ediv_of_nonneg (by omega), Int.natAbs_neg, Int.natAbs_of_nonneg (by omega), Int.natAbs_of_nonneg (by omega)]
    rw [this]
    generalize (a.natAbs : Int) / (b.natAbs : Int) = q
    unfold wrap64; omega
  · have : a.tdiv b = -((a.natAbs : Int) / (b.natAbs : Int)) := by
      obtain ⟨y, rfl⟩ : ∃ y, b = -y := ⟨-b, by omega⟩
      rw [Int.tdiv_neg, Int.tdiv_eq_ediv_of_nonneg (by omega), Int.natAbs_neg, Int.natAbs_of_nonneg (by omega), Int.natAbs_of_nonneg (by omega)]
    rw [this]
    generalize (a.natAbs : Int) / (b.natAbs : Int) = q
    unfold wrap64; omega
  · have : a.tdiv b = (a.natAbs : Int) / (b.natAbs : Int) := by
      rw [Int.tdiv_eq_ediv_of_nonneg (by omega), Int.natAbs_of_nonneg (by omega), Int.natAbs_of_nonneg (by omega)]
    rw [this]
theorem remV (a b : Int) (ha0 : -9223372036854775808 ≤ a) (ha1 : a ≤ 9223372036854775807) (hb0 : -9223372036854775808 ≤ b) (hb1 : b ≤ 9223372036854775807) (hb : b ≠ 0) :
    (if a < 0 then wrap64 (-(wrap64 (absU a % absU b))) else wrap64 (absU a % absU b)) = a.tmod b := by
  rw [absU_eq a ha0 ha1, absU_eq b hb0 hb1]
  have hm0 : 0 ≤ (a.natAbs : Int) % (b.natAbs : Int) := Int.emod_nonneg _ (by omega)
  have hm1 : (a.natAbs : Int) % (b.natAbs : Int) < (b.natAbs : Int) := Int.emod_lt_of_pos _ (by omega)
  have hm2 : (a.natAbs : Int) % (b.natAbs : Int) ≤ (a.natAbs : Int) := by
    rw [← Int.natCast_emod]; exact Int.ofNat_le.2 (Nat.mod_le _ _)
  have ht : a.tmod b = if a < 0 then -((a.natAbs : Int) % (b.natAbs : Int)) else (a.natAbs : Int) % (b.natAbs : Int) := by
    have hb' : a.tmod b = a.tmod (b.natAbs : Int) := by
      by_cases h2 : b < 0
      · obtain ⟨y, rfl⟩ : ∃ y, b = -y := ⟨-b, by omega⟩
        rw [Int.tmod_neg, Int.natAbs_neg, Int.natAbs_of_nonneg (by omega)]
      · rw [Int.natAbs_of_nonneg (by omega)]
    rw [hb']
    by_cases h1 : a < 0
    · rw [if_pos h1]
      obtain ⟨x, rfl⟩ : ∃ x, a = -x := ⟨-a, by omega⟩
      rw [Int.neg_tmod, Int.tmod_eq_emod_of_nonneg (by omega), Int.natAbs_neg, Int.natAbs_of_nonneg (a := x) (by omega)]
    · rw [if_neg h1, Int.tmod_eq_emod_of_nonneg (by omega), Int.natAbs_of_nonneg (a := a) (by omega)]
  rw [ht]
  generalize (a.natAbs : Int) % (b.natAbs : Int) = m at *
  by_cases h1 : a < 0
  · rw [if_pos h1, if_pos h1]; unfold wrap64; omega
  · rw [if_neg h1, if_neg h1]; unfold wrap64; omega
end Go.Proofs.YtaodcpdkobhmfaaDoor.Alu
