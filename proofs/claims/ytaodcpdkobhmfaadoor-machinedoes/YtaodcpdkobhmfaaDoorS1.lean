/- The document's Alu (function 34), its quotient (56), walked. -/
import Derived.Test.YtaodcpdkobhmfaaDoorQ1
import Derived.Deep.QuietTactic
namespace Go.Proofs.YtaodcpdkobhmfaaDoor.Alu
open Go Go.RowKit

theorem hlf2 (y : Int) : (y - y % 2).tdiv 2 = y / 2 := by
  have e : y - y % 2 = 2 * (y / 2) := by omega
  rw [e, Int.mul_tdiv_cancel_left _ (by omega)]
theorem sra_step (a : Int) (i : Nat) : a / (2 : Int) ^ i / 2 = a / (2 : Int) ^ (i + 1) := by
  rw [Int.pow_succ, Int.ediv_ediv_of_nonneg (by have : 0 < (2 : Int) ^ i := by exact_mod_cast Nat.two_pow_pos i
                                                omega)]
theorem sra_in (a : Int) (i : Nat) (ha0 : -9223372036854775808 ≤ a) (ha1 : a ≤ 9223372036854775807) : -9223372036854775808 ≤ a / (2 : Int) ^ i ∧ a / (2 : Int) ^ i ≤ 9223372036854775807 := by
  induction i with
  | zero => simp only [Int.pow_zero, Int.ediv_one]; omega
  | succ i ih => rw [← sra_step]; omega
theorem i64w (x : Int) : IntKind.i64.wrap x = wrap64 x := by rw [IntKind.wrap_i64, wrap64]
theorem yes_any (y : Bool) (w : World) : Calls Tryd.prog 55 #[.bool y] w fun e w' => e = .returned (.int .i64 (oneD y)) ∧ w' = w := by
  cases y
  · go_enter Tryd.func55, Tryd.ntmps55
    go_wp2
    go_ret
    exact ⟨ret_int (by simp [oneD]), rfl⟩
  · go_enter Tryd.func55, Tryd.ntmps55
    go_wp2
    go_ret
    exact ⟨ret_int (by simp [oneD]), rfl⟩
theorem ret_two {x y x' y' : Int} (h : x = x') (g : y = y') : Ending.returned (.tuple #[.int .i64 x, .int .i64 y]) = Ending.returned (.tuple #[.int .i64 x', .int .i64 y']) := by rw [h, g]
theorem quo_any (a b : Int) (w : World) (ha0 : -9223372036854775808 ≤ a) (ha1 : a ≤ 9223372036854775807) (hb0 : -9223372036854775808 ≤ b) (hb1 : b ≤ 9223372036854775807) :
    Calls Tryd.prog 56 #[.int .i64 a, .int .i64 b] w fun e w' => e = .returned (.tuple #[.int .i64 (quoD a b), .int .i64 (remD a b)]) ∧ ∃ n, w' = w.drewN n := by
  by_cases h : b = 0
  · subst h
    go_enter Tryd.func56, Tryd.ntmps56
    go_wp2
    go_ret2
    exact ⟨rfl, 0, rfl⟩
  · have hq := quoV a b ha0 ha1 hb0 hb1 h
    have hr := remV a b ha0 ha1 hb0 hb1 h
    have hq' : quoD a b = wrap64 (a.tdiv b) := by simp [quoD, h]
    have hr' : remD a b = a.tmod b := by simp [remD, h]
    rw [← hq] at hq'
    rw [← hr] at hr'
    have HQ : Hid (quoD a b = _) := hq'
    have HR : Hid (remD a b = _) := hr'
    clear hq hr hq' hr'
    have eX := absU_eq a ha0 ha1
    have eY := absU_eq b hb0 hb1
    have uX : absU a = if a < 0 then IntKind.u64.wrap (-(IntKind.u64.wrap a)) else IntKind.u64.wrap a := by simp only [absU, u64_wrap]
    have uY : absU b = if b < 0 then IntKind.u64.wrap (-(IntKind.u64.wrap b)) else IntKind.u64.wrap b := by simp only [absU, u64_wrap]
    generalize absU a = X at *
    generalize absU b = Y at *
    have x0 : 0 ≤ X := by omega
    have y0 : 0 < Y := by omega
    have yn : ¬ Y = 0 := by omega
    have td : X.tdiv Y = X / Y := Int.tdiv_eq_ediv_of_nonneg x0
    have tm : X.tmod Y = X % Y := Int.tmod_eq_emod_of_nonneg x0
    have uq : IntKind.u64.wrap (X / Y) = X / Y := by
      rw [u64_wrap]
      have k0 : 0 ≤ X / Y := Int.ediv_nonneg x0 (by omega)
      have k1 : X / Y ≤ X := Int.ediv_le_self Y x0
      omega
    have um : IntKind.u64.wrap (X % Y) = X % Y := by
      rw [u64_wrap]
      have k0 : 0 ≤ X % Y := Int.emod_nonneg X yn
      have k1 : X % Y < Y := Int.emod_lt_of_pos X y0
      omega
    have s0 : (false != true) = true := rfl
    have s1 : (true != false) = true := rfl
    have s2 : (true != true) = false := rfl
    have s3 : (false != false) = false := rfl
    clear eX eY
    by_cases h1 : a < 0 <;> by_cases h2 : b < 0
    all_goals
      simp only [h1, h2, if_true, if_false, decide_true, decide_false] at uX uY HQ HR
      have uX' := uX.symm
      have uY' := uY.symm
      clear uX uY
      first | (have d1 : decide (a < 0) = true := by simp only [h1, decide_true]) | (have d1 : decide (a < 0) = false := by simp only [h1, decide_false])
      first | (have d2 : decide (b < 0) = true := by simp only [h2, decide_true]) | (have d2 : decide (b < 0) = false := by simp only [h2, decide_false])
      clear h1 h2
      go_enter Tryd.func56, Tryd.ntmps56
      go_wp2_with fail
      go_quiet (fail)
      go_wp2
      go_ret2
      refine ⟨ret_two ?_ ?_, _, rfl⟩
      · rw [HQ.out]; try simp
      · rw [HR.out]; try simp [i64w]
theorem ref_1 (a b : Int) (w : World) : Calls Tryd.prog 34 #[.int .i64 1, .int .i64 a, .int .i64 b] w fun e w' => e = .returned (.int .i64 (wrap64 (a + b))) ∧ w' = w := by
  have hu : (IntKind.u64.wrap b).tmod 64 = b % 64 := by rw [u64_wrap, Int.tmod_eq_emod_of_nonneg (by omega)]; omega
  go_enter Tryd.func34, Tryd.ntmps34
  go_wp2
  go_ret
  exact ⟨rfl, rfl⟩
theorem ref_2 (a b : Int) (w : World) : Calls Tryd.prog 34 #[.int .i64 2, .int .i64 a, .int .i64 b] w fun e w' => e = .returned (.int .i64 (wrap64 (a - b))) ∧ w' = w := by
  have hu : (IntKind.u64.wrap b).tmod 64 = b % 64 := by rw [u64_wrap, Int.tmod_eq_emod_of_nonneg (by omega)]; omega
  go_enter Tryd.func34, Tryd.ntmps34
  go_wp2
  go_ret
  exact ⟨rfl, rfl⟩
theorem ref_3 (a b : Int) (w : World) : Calls Tryd.prog 34 #[.int .i64 3, .int .i64 a, .int .i64 b] w fun e w' => e = .returned (.int .i64 (wrap64 (a * b))) ∧ w' = w := by
  have hu : (IntKind.u64.wrap b).tmod 64 = b % 64 := by rw [u64_wrap, Int.tmod_eq_emod_of_nonneg (by omega)]; omega
  go_enter Tryd.func34, Tryd.ntmps34
  go_wp2
  go_ret
  exact ⟨rfl, rfl⟩
theorem ref_4 (a b : Int) (w : World) (ha0 : -9223372036854775808 ≤ a) (ha1 : a ≤ 9223372036854775807) (hb0 : -9223372036854775808 ≤ b) (hb1 : b ≤ 9223372036854775807) : Calls Tryd.prog 34 #[.int .i64 4, .int .i64 a, .int .i64 b] w fun e w' => e = .returned (.int .i64 (quoD a b)) ∧ ∃ n, w' = w.drewN n := by
  have hu : (IntKind.u64.wrap b).tmod 64 = b % 64 := by rw [u64_wrap, Int.tmod_eq_emod_of_nonneg (by omega)]; omega
  go_enter Tryd.func34, Tryd.ntmps34
  go_wp2_with (go_at_call 56; refine (quo_any _ _ _ ha0 ha1 hb0 hb1).mono ?_; rintro e w' ⟨rfl, n, rfl⟩)
  go_ret
  exact ⟨rfl, _, rfl⟩
theorem ref_5 (a b : Int) (w : World) (ha0 : -9223372036854775808 ≤ a) (ha1 : a ≤ 9223372036854775807) (hb0 : -9223372036854775808 ≤ b) (hb1 : b ≤ 9223372036854775807) : Calls Tryd.prog 34 #[.int .i64 5, .int .i64 a, .int .i64 b] w fun e w' => e = .returned (.int .i64 (remD a b)) ∧ ∃ n, w' = w.drewN n := by
  have hu : (IntKind.u64.wrap b).tmod 64 = b % 64 := by rw [u64_wrap, Int.tmod_eq_emod_of_nonneg (by omega)]; omega
  go_enter Tryd.func34, Tryd.ntmps34
  go_wp2_with (go_at_call 56; refine (quo_any _ _ _ ha0 ha1 hb0 hb1).mono ?_; rintro e w' ⟨rfl, n, rfl⟩)
  go_ret
  exact ⟨rfl, _, rfl⟩
theorem ref_6 (a b : Int) (w : World) : Calls Tryd.prog 34 #[.int .i64 6, .int .i64 a, .int .i64 b] w fun e w' => e = .returned (.int .i64 (bits .and .i64 a b)) ∧ w' = w := by
  have hu : (IntKind.u64.wrap b).tmod 64 = b % 64 := by rw [u64_wrap, Int.tmod_eq_emod_of_nonneg (by omega)]; omega
  go_enter Tryd.func34, Tryd.ntmps34
  go_wp2
  go_ret
  exact ⟨rfl, rfl⟩
theorem ref_7 (a b : Int) (w : World) : Calls Tryd.prog 34 #[.int .i64 7, .int .i64 a, .int .i64 b] w fun e w' => e = .returned (.int .i64 (bits .or .i64 a b)) ∧ w' = w := by
  have hu : (IntKind.u64.wrap b).tmod 64 = b % 64 := by rw [u64_wrap, Int.tmod_eq_emod_of_nonneg (by omega)]; omega
  go_enter Tryd.func34, Tryd.ntmps34
  go_wp2
  go_ret
  exact ⟨rfl, rfl⟩
theorem ref_8 (a b : Int) (w : World) : Calls Tryd.prog 34 #[.int .i64 8, .int .i64 a, .int .i64 b] w fun e w' => e = .returned (.int .i64 (bits .xor .i64 a b)) ∧ w' = w := by
  have hu : (IntKind.u64.wrap b).tmod 64 = b % 64 := by rw [u64_wrap, Int.tmod_eq_emod_of_nonneg (by omega)]; omega
  go_enter Tryd.func34, Tryd.ntmps34
  go_wp2
  go_ret
  exact ⟨ret_int (xorV a b), rfl⟩
theorem ref_9 (a b : Int) (w : World) : Calls Tryd.prog 34 #[.int .i64 9, .int .i64 a, .int .i64 b] w fun e w' => e = .returned (.int .i64 (oneD (decide (a < b)))) ∧ w' = w := by
  have hu : (IntKind.u64.wrap b).tmod 64 = b % 64 := by rw [u64_wrap, Int.tmod_eq_emod_of_nonneg (by omega)]; omega
  go_enter Tryd.func34, Tryd.ntmps34
  go_wp2_with (go_at_call 55; refine (yes_any _ _).mono ?_; rintro e w' ⟨rfl, rfl⟩)
  go_ret
  exact ⟨rfl, rfl⟩
theorem ref_10 (a b : Int) (w : World) : Calls Tryd.prog 34 #[.int .i64 10, .int .i64 a, .int .i64 b] w fun e w' => e = .returned (.int .i64 (oneD (decide (a % 18446744073709551616 < b % 18446744073709551616)))) ∧ w' = w := by
  have hu : (IntKind.u64.wrap b).tmod 64 = b % 64 := by rw [u64_wrap, Int.tmod_eq_emod_of_nonneg (by omega)]; omega
  go_enter Tryd.func34, Tryd.ntmps34
  go_wp2_with (go_at_call 55; refine (yes_any _ _).mono ?_; rintro e w' ⟨rfl, rfl⟩)
  go_ret
  exact ⟨ret_int (by simp [u64_wrap]), rfl⟩
theorem ref_11 (a b : Int) (w : World) (ha0 : -9223372036854775808 ≤ a) (ha1 : a ≤ 9223372036854775807) : Calls Tryd.prog 34 #[.int .i64 11, .int .i64 a, .int .i64 b] w fun e w' => e = .returned (.int .i64 (wrap64 (a * (2 : Int) ^ (b % 64).toNat))) ∧ w' = w := by
  have hu : (IntKind.u64.wrap b).tmod 64 = b % 64 := by rw [u64_wrap, Int.tmod_eq_emod_of_nonneg (by omega)]; omega
  have h0 : 0 ≤ b % 64 := by omega
  have h1 : b % 64 ≤ 63 := by omega
  generalize b % 64 = k at *
  go_enter Tryd.func34, Tryd.ntmps34
  go_wp2
  go_loopw [1, 87] (fun s t wr => ∃ (i : Nat), (i : Int) ≤ k ∧ t = .int .u64 i ∧ s = .int .i64 (wrap64 (a * (2 : Int) ^ i)) ∧ wr = w) (fun _ t _ => (k - intOf t).toNat)
  case atStart => exact ⟨0, by omega, rfl, by simp only [Int.pow_zero, Int.mul_one]; congr 1; unfold wrap64; omega, rfl⟩
  case round =>
    obtain ⟨i, hi, rfl, rfl, rfl⟩ := hrel
    by_cases hlt : (i : Int) < k
    · go_wp2
      refine ⟨⟨i + 1, by omega, by simp, ?_, trivial⟩, by simp [intOf]; omega⟩
      rw [dbl, Int.pow_succ, Int.mul_assoc]
    · obtain rfl : k = (i : Int) := by omega
      go_wp2
      go_ret
      exact ⟨ret_int (by simp), rfl⟩
theorem ref_12 (a b : Int) (w : World) : Calls Tryd.prog 34 #[.int .i64 12, .int .i64 a, .int .i64 b] w fun e w' => e = .returned (.int .i64 (wrap64 (a % 18446744073709551616 / (2 : Int) ^ (b % 64).toNat))) ∧ w' = w := by
  have hu : (IntKind.u64.wrap b).tmod 64 = b % 64 := by rw [u64_wrap, Int.tmod_eq_emod_of_nonneg (by omega)]; omega
  have h0 : 0 ≤ b % 64 := by omega
  have h1 : b % 64 ≤ 63 := by omega
  generalize b % 64 = k at *
  generalize hp : (2 : Int) ^ k.toNat = p
  go_enter Tryd.func34, Tryd.ntmps34
  go_wp2
  go_ret
  exact ⟨ret_int (by simp [u64_wrap]), rfl⟩
theorem ref_13 (a b : Int) (w : World) (ha0 : -9223372036854775808 ≤ a) (ha1 : a ≤ 9223372036854775807) : Calls Tryd.prog 34 #[.int .i64 13, .int .i64 a, .int .i64 b] w fun e w' => e = .returned (.int .i64 (a / (2 : Int) ^ (b % 64).toNat)) ∧ w' = w := by
  have hu : (IntKind.u64.wrap b).tmod 64 = b % 64 := by rw [u64_wrap, Int.tmod_eq_emod_of_nonneg (by omega)]; omega
  have h0 : 0 ≤ b % 64 := by omega
  have h1 : b % 64 ≤ 63 := by omega
  generalize b % 64 = k at *
  go_enter Tryd.func34, Tryd.ntmps34
  go_wp2
  go_loopw [1, 105] (fun s t wr => ∃ (i : Nat), (i : Int) ≤ k ∧ t = .int .u64 i ∧ s = .int .i64 (a / (2 : Int) ^ i) ∧ wr = w) (fun _ t _ => (k - intOf t).toNat)
  case atStart => exact ⟨0, by omega, rfl, by simp, rfl⟩
  case round =>
    obtain ⟨i, hi, rfl, rfl, rfl⟩ := hrel
    have r0 : -9223372036854775808 ≤ a / (2 : Int) ^ i ∧ a / (2 : Int) ^ i ≤ 9223372036854775807 := by
      have := sra_in a i ha0 ha1
      omega
    have e1 := and1 (a / (2 : Int) ^ i)
    by_cases hlt : (i : Int) < k
    · go_wp2
      refine ⟨⟨i + 1, by omega, by simp, ?_, trivial⟩, by simp [intOf]; omega⟩
      rw [hlf2, sra_step]
    · obtain rfl : k = (i : Int) := by omega
      go_wp2
      go_ret
      exact ⟨ret_int (by simp), rfl⟩
theorem ref_14 (a b : Int) (w : World) : Calls Tryd.prog 34 #[.int .i64 14, .int .i64 a, .int .i64 b] w fun e w' => e = .returned (.int .i64 (wrap64 (a + b))) ∧ w' = w := by
  have hu : (IntKind.u64.wrap b).tmod 64 = b % 64 := by rw [u64_wrap, Int.tmod_eq_emod_of_nonneg (by omega)]; omega
  go_enter Tryd.func34, Tryd.ntmps34
  go_wp2
  go_ret
  exact ⟨rfl, rfl⟩
theorem ref_15 (a b : Int) (w : World) : Calls Tryd.prog 34 #[.int .i64 15, .int .i64 a, .int .i64 b] w fun e w' => e = .returned (.int .i64 (bits .and .i64 a b)) ∧ w' = w := by
  have hu : (IntKind.u64.wrap b).tmod 64 = b % 64 := by rw [u64_wrap, Int.tmod_eq_emod_of_nonneg (by omega)]; omega
  go_enter Tryd.func34, Tryd.ntmps34
  go_wp2
  go_ret
  exact ⟨rfl, rfl⟩
theorem ref_16 (a b : Int) (w : World) : Calls Tryd.prog 34 #[.int .i64 16, .int .i64 a, .int .i64 b] w fun e w' => e = .returned (.int .i64 (bits .or .i64 a b)) ∧ w' = w := by
  have hu : (IntKind.u64.wrap b).tmod 64 = b % 64 := by rw [u64_wrap, Int.tmod_eq_emod_of_nonneg (by omega)]; omega
  go_enter Tryd.func34, Tryd.ntmps34
  go_wp2
  go_ret
  exact ⟨rfl, rfl⟩
theorem ref_17 (a b : Int) (w : World) : Calls Tryd.prog 34 #[.int .i64 17, .int .i64 a, .int .i64 b] w fun e w' => e = .returned (.int .i64 (bits .xor .i64 a b)) ∧ w' = w := by
  have hu : (IntKind.u64.wrap b).tmod 64 = b % 64 := by rw [u64_wrap, Int.tmod_eq_emod_of_nonneg (by omega)]; omega
  go_enter Tryd.func34, Tryd.ntmps34
  go_wp2
  go_ret
  exact ⟨ret_int (xorV a b), rfl⟩
theorem ref_18 (a b : Int) (w : World) : Calls Tryd.prog 34 #[.int .i64 18, .int .i64 a, .int .i64 b] w fun e w' => e = .returned (.int .i64 (oneD (decide (a < b)))) ∧ w' = w := by
  have hu : (IntKind.u64.wrap b).tmod 64 = b % 64 := by rw [u64_wrap, Int.tmod_eq_emod_of_nonneg (by omega)]; omega
  go_enter Tryd.func34, Tryd.ntmps34
  go_wp2_with (go_at_call 55; refine (yes_any _ _).mono ?_; rintro e w' ⟨rfl, rfl⟩)
  go_ret
  exact ⟨rfl, rfl⟩
theorem ref_19 (a b : Int) (w : World) (ha0 : -9223372036854775808 ≤ a) (ha1 : a ≤ 9223372036854775807) : Calls Tryd.prog 34 #[.int .i64 19, .int .i64 a, .int .i64 b] w fun e w' => e = .returned (.int .i64 (wrap64 (a * (2 : Int) ^ (b % 64).toNat))) ∧ w' = w := by
  have hu : (IntKind.u64.wrap b).tmod 64 = b % 64 := by rw [u64_wrap, Int.tmod_eq_emod_of_nonneg (by omega)]; omega
  have h0 : 0 ≤ b % 64 := by omega
  have h1 : b % 64 ≤ 63 := by omega
  generalize b % 64 = k at *
  go_enter Tryd.func34, Tryd.ntmps34
  go_wp2
  go_loopw [1, 87] (fun s t wr => ∃ (i : Nat), (i : Int) ≤ k ∧ t = .int .u64 i ∧ s = .int .i64 (wrap64 (a * (2 : Int) ^ i)) ∧ wr = w) (fun _ t _ => (k - intOf t).toNat)
  case atStart => exact ⟨0, by omega, rfl, by simp only [Int.pow_zero, Int.mul_one]; congr 1; unfold wrap64; omega, rfl⟩
  case round =>
    obtain ⟨i, hi, rfl, rfl, rfl⟩ := hrel
    by_cases hlt : (i : Int) < k
    · go_wp2
      refine ⟨⟨i + 1, by omega, by simp, ?_, trivial⟩, by simp [intOf]; omega⟩
      rw [dbl, Int.pow_succ, Int.mul_assoc]
    · obtain rfl : k = (i : Int) := by omega
      go_wp2
      go_ret
      exact ⟨ret_int (by simp), rfl⟩
theorem ref_20 (a b : Int) (w : World) : Calls Tryd.prog 34 #[.int .i64 20, .int .i64 a, .int .i64 b] w fun e w' => e = .returned (.int .i64 (wrap64 (a % 18446744073709551616 / (2 : Int) ^ (b % 64).toNat))) ∧ w' = w := by
  have hu : (IntKind.u64.wrap b).tmod 64 = b % 64 := by rw [u64_wrap, Int.tmod_eq_emod_of_nonneg (by omega)]; omega
  have h0 : 0 ≤ b % 64 := by omega
  have h1 : b % 64 ≤ 63 := by omega
  generalize b % 64 = k at *
  generalize hp : (2 : Int) ^ k.toNat = p
  go_enter Tryd.func34, Tryd.ntmps34
  go_wp2
  go_ret
  exact ⟨ret_int (by simp [u64_wrap]), rfl⟩
theorem ref_21 (a b : Int) (w : World) (ha0 : -9223372036854775808 ≤ a) (ha1 : a ≤ 9223372036854775807) : Calls Tryd.prog 34 #[.int .i64 21, .int .i64 a, .int .i64 b] w fun e w' => e = .returned (.int .i64 (a / (2 : Int) ^ (b % 64).toNat)) ∧ w' = w := by
  have hu : (IntKind.u64.wrap b).tmod 64 = b % 64 := by rw [u64_wrap, Int.tmod_eq_emod_of_nonneg (by omega)]; omega
  have h0 : 0 ≤ b % 64 := by omega
  have h1 : b % 64 ≤ 63 := by omega
  generalize b % 64 = k at *
  go_enter Tryd.func34, Tryd.ntmps34
  go_wp2
  go_loopw [1, 105] (fun s t wr => ∃ (i : Nat), (i : Int) ≤ k ∧ t = .int .u64 i ∧ s = .int .i64 (a / (2 : Int) ^ i) ∧ wr = w) (fun _ t _ => (k - intOf t).toNat)
  case atStart => exact ⟨0, by omega, rfl, by simp, rfl⟩
  case round =>
    obtain ⟨i, hi, rfl, rfl, rfl⟩ := hrel
    have r0 : -9223372036854775808 ≤ a / (2 : Int) ^ i ∧ a / (2 : Int) ^ i ≤ 9223372036854775807 := by
      have := sra_in a i ha0 ha1
      omega
    have e1 := and1 (a / (2 : Int) ^ i)
    by_cases hlt : (i : Int) < k
    · go_wp2
      refine ⟨⟨i + 1, by omega, by simp, ?_, trivial⟩, by simp [intOf]; omega⟩
      rw [hlf2, sra_step]
    · obtain rfl : k = (i : Int) := by omega
      go_wp2
      go_ret
      exact ⟨ret_int (by simp), rfl⟩
theorem ref_out (op a b : Int) (w : World) (h : op < 1 ∨ 21 < op) : Calls Tryd.prog 34 #[.int .i64 op, .int .i64 a, .int .i64 b] w fun e w' => e = .returned (.int .i64 0) ∧ w' = w := by
  have h1 : ¬ op = 1 := by omega
  have h2 : ¬ op = 2 := by omega
  have h3 : ¬ op = 3 := by omega
  have h4 : ¬ op = 4 := by omega
  have h5 : ¬ op = 5 := by omega
  have h6 : ¬ op = 6 := by omega
  have h7 : ¬ op = 7 := by omega
  have h8 : ¬ op = 8 := by omega
  have h9 : ¬ op = 9 := by omega
  have h10 : ¬ op = 10 := by omega
  have h11 : ¬ op = 11 := by omega
  have h12 : ¬ op = 12 := by omega
  have h13 : ¬ op = 13 := by omega
  have h14 : ¬ op = 14 := by omega
  have h15 : ¬ op = 15 := by omega
  have h16 : ¬ op = 16 := by omega
  have h17 : ¬ op = 17 := by omega
  have h18 : ¬ op = 18 := by omega
  have h19 : ¬ op = 19 := by omega
  have h20 : ¬ op = 20 := by omega
  have h21 : ¬ op = 21 := by omega
  clear h
  go_enter Tryd.func34, Tryd.ntmps34
  go_wp2
  go_ret
  exact ⟨rfl, rfl⟩
theorem ref_any (op a b : Int) (w : World) (ha0 : -9223372036854775808 ≤ a) (ha1 : a ≤ 9223372036854775807) (hb0 : -9223372036854775808 ≤ b) (hb1 : b ≤ 9223372036854775807) :
    Calls Tryd.prog 34 #[.int .i64 op, .int .i64 a, .int .i64 b] w fun e w' => e = .returned (.int .i64 (aluV op a b)) ∧ ∃ n, w' = w.drewN n := by
  by_cases h : op < 1 ∨ 21 < op
  · have e : aluV op a b = 0 := by
      unfold aluV
      repeat rw [if_neg (by omega)]
    rw [e]
    exact (ref_out op a b w h).mono fun e w' h => ⟨h.1, 0, h.2⟩
  · have hc : op = 1 ∨ op = 2 ∨ op = 3 ∨ op = 4 ∨ op = 5 ∨ op = 6 ∨ op = 7 ∨ op = 8 ∨ op = 9 ∨ op = 10 ∨ op = 11 ∨ op = 12 ∨ op = 13 ∨ op = 14 ∨ op = 15 ∨ op = 16 ∨ op = 17 ∨ op = 18 ∨ op = 19 ∨ op = 20 ∨ op = 21 := by omega
    rcases hc with rfl | rfl | rfl | rfl | rfl | rfl | rfl | rfl | rfl | rfl | rfl | rfl | rfl | rfl | rfl | rfl | rfl | rfl | rfl | rfl | rfl
    · exact (ref_1 a b w).mono fun e w' h => ⟨h.1, 0, h.2⟩
    · exact (ref_2 a b w).mono fun e w' h => ⟨h.1, 0, h.2⟩
    · exact (ref_3 a b w).mono fun e w' h => ⟨h.1, 0, h.2⟩
    · exact ref_4 a b w ha0 ha1 hb0 hb1
    · exact ref_5 a b w ha0 ha1 hb0 hb1
    · exact (ref_6 a b w).mono fun e w' h => ⟨h.1, 0, h.2⟩
    · exact (ref_7 a b w).mono fun e w' h => ⟨h.1, 0, h.2⟩
    · exact (ref_8 a b w).mono fun e w' h => ⟨h.1, 0, h.2⟩
    · exact (ref_9 a b w).mono fun e w' h => ⟨h.1, 0, h.2⟩
    · exact (ref_10 a b w).mono fun e w' h => ⟨h.1, 0, h.2⟩
    · exact (ref_11 a b w ha0 ha1).mono fun e w' h => ⟨h.1, 0, h.2⟩
    · exact (ref_12 a b w).mono fun e w' h => ⟨h.1, 0, h.2⟩
    · exact (ref_13 a b w ha0 ha1).mono fun e w' h => ⟨h.1, 0, h.2⟩
    · exact (ref_14 a b w).mono fun e w' h => ⟨h.1, 0, h.2⟩
    · exact (ref_15 a b w).mono fun e w' h => ⟨h.1, 0, h.2⟩
    · exact (ref_16 a b w).mono fun e w' h => ⟨h.1, 0, h.2⟩
    · exact (ref_17 a b w).mono fun e w' h => ⟨h.1, 0, h.2⟩
    · exact (ref_18 a b w).mono fun e w' h => ⟨h.1, 0, h.2⟩
    · exact (ref_19 a b w ha0 ha1).mono fun e w' h => ⟨h.1, 0, h.2⟩
    · exact (ref_20 a b w).mono fun e w' h => ⟨h.1, 0, h.2⟩
    · exact (ref_21 a b w ha0 ha1).mono fun e w' h => ⟨h.1, 0, h.2⟩
end Go.Proofs.YtaodcpdkobhmfaaDoor.Alu
