/- Package machine's Alu (function 44), walked, op by op. -/
import Derived.Test.YtaodcpdkobhmfaaDoorQ0
namespace Go.Proofs.YtaodcpdkobhmfaaDoor.Alu
open Go Go.RowKit

/-- What an op comes to, of two numbers. -/
def aluV (op a b : Int) : Int :=
  if op = 1 ∨ op = 14 then (wrap64 (a + b)) else
  if op = 2 then (wrap64 (a - b)) else
  if op = 3 then (wrap64 (a * b)) else
  if op = 4 then (quoD a b) else
  if op = 5 then (remD a b) else
  if op = 6 ∨ op = 15 then (bits .and .i64 a b) else
  if op = 7 ∨ op = 16 then (bits .or .i64 a b) else
  if op = 8 ∨ op = 17 then (bits .xor .i64 a b) else
  if op = 9 ∨ op = 18 then (oneD (decide (a < b))) else
  if op = 10 then (oneD (decide (a % 18446744073709551616 < b % 18446744073709551616))) else
  if op = 11 ∨ op = 19 then (wrap64 (a * (2 : Int) ^ (b % 64).toNat)) else
  if op = 12 ∨ op = 20 then (wrap64 (a % 18446744073709551616 / (2 : Int) ^ (b % 64).toNat)) else
  if op = 13 ∨ op = 21 then (a / (2 : Int) ^ (b % 64).toNat) else
  0

theorem quotient_any (a b : Int) (w : World) : Calls Tryd.prog 62 #[.int .i64 a, .int .i64 b] w fun e w' => e = .returned (.int .i64 (quoD a b)) ∧ w' = w := by
  by_cases h : b = 0
  · go_enter Tryd.func62, Tryd.ntmps62
    go_wp2
    go_ret
    exact ⟨ret_int (by simp [h, quoD]), rfl⟩
  · go_enter Tryd.func62, Tryd.ntmps62
    go_wp2
    go_ret
    exact ⟨ret_int (by simp [h, quoD]), rfl⟩
theorem rest_any (a b : Int) (w : World) : Calls Tryd.prog 63 #[.int .i64 a, .int .i64 b] w fun e w' => e = .returned (.int .i64 (remD a b)) ∧ w' = w := by
  by_cases h : b = 0
  · go_enter Tryd.func63, Tryd.ntmps63
    go_wp2
    go_ret
    exact ⟨ret_int (by simp [h, remD]), rfl⟩
  · go_enter Tryd.func63, Tryd.ntmps63
    go_wp2
    go_ret
    exact ⟨ret_int (by simp [h, remD]), rfl⟩
theorem one_any (y : Bool) (w : World) : Calls Tryd.prog 64 #[.bool y] w fun e w' => e = .returned (.int .i64 (oneD y)) ∧ w' = w := by
  cases y
  · go_enter Tryd.func64, Tryd.ntmps64
    go_wp2
    go_ret
    exact ⟨ret_int (by simp [oneD]), rfl⟩
  · go_enter Tryd.func64, Tryd.ntmps64
    go_wp2
    go_ret
    exact ⟨ret_int (by simp [oneD]), rfl⟩
theorem alu_1 (a b : Int) (w : World) : Calls Tryd.prog 44 #[.int .i64 1, .int .i64 a, .int .i64 b] w fun e w' => e = .returned (.int .i64 (wrap64 (a + b))) ∧ w' = w := by
  go_enter Tryd.func44, Tryd.ntmps44
  go_wp2
  go_ret
  exact ⟨rfl, rfl⟩
theorem alu_2 (a b : Int) (w : World) : Calls Tryd.prog 44 #[.int .i64 2, .int .i64 a, .int .i64 b] w fun e w' => e = .returned (.int .i64 (wrap64 (a - b))) ∧ w' = w := by
  go_enter Tryd.func44, Tryd.ntmps44
  go_wp2
  go_ret
  exact ⟨rfl, rfl⟩
theorem alu_3 (a b : Int) (w : World) : Calls Tryd.prog 44 #[.int .i64 3, .int .i64 a, .int .i64 b] w fun e w' => e = .returned (.int .i64 (wrap64 (a * b))) ∧ w' = w := by
  go_enter Tryd.func44, Tryd.ntmps44
  go_wp2
  go_ret
  exact ⟨rfl, rfl⟩
theorem alu_4 (a b : Int) (w : World) : Calls Tryd.prog 44 #[.int .i64 4, .int .i64 a, .int .i64 b] w fun e w' => e = .returned (.int .i64 (quoD a b)) ∧ w' = w := by
  go_enter Tryd.func44, Tryd.ntmps44
  go_wp2_with (go_at_call 62; refine (quotient_any _ _ _).mono ?_; rintro e w' ⟨rfl, rfl⟩)
  go_ret
  exact ⟨rfl, rfl⟩
theorem alu_5 (a b : Int) (w : World) : Calls Tryd.prog 44 #[.int .i64 5, .int .i64 a, .int .i64 b] w fun e w' => e = .returned (.int .i64 (remD a b)) ∧ w' = w := by
  go_enter Tryd.func44, Tryd.ntmps44
  go_wp2_with (go_at_call 63; refine (rest_any _ _ _).mono ?_; rintro e w' ⟨rfl, rfl⟩)
  go_ret
  exact ⟨rfl, rfl⟩
theorem alu_6 (a b : Int) (w : World) : Calls Tryd.prog 44 #[.int .i64 6, .int .i64 a, .int .i64 b] w fun e w' => e = .returned (.int .i64 (bits .and .i64 a b)) ∧ w' = w := by
  go_enter Tryd.func44, Tryd.ntmps44
  go_wp2
  go_ret
  exact ⟨rfl, rfl⟩
theorem alu_7 (a b : Int) (w : World) : Calls Tryd.prog 44 #[.int .i64 7, .int .i64 a, .int .i64 b] w fun e w' => e = .returned (.int .i64 (bits .or .i64 a b)) ∧ w' = w := by
  go_enter Tryd.func44, Tryd.ntmps44
  go_wp2
  go_ret
  exact ⟨rfl, rfl⟩
theorem alu_8 (a b : Int) (w : World) : Calls Tryd.prog 44 #[.int .i64 8, .int .i64 a, .int .i64 b] w fun e w' => e = .returned (.int .i64 (bits .xor .i64 a b)) ∧ w' = w := by
  go_enter Tryd.func44, Tryd.ntmps44
  go_wp2
  go_ret
  exact ⟨rfl, rfl⟩
theorem alu_9 (a b : Int) (w : World) : Calls Tryd.prog 44 #[.int .i64 9, .int .i64 a, .int .i64 b] w fun e w' => e = .returned (.int .i64 (oneD (decide (a < b)))) ∧ w' = w := by
  go_enter Tryd.func44, Tryd.ntmps44
  go_wp2_with (go_at_call 64; refine (one_any _ _).mono ?_; rintro e w' ⟨rfl, rfl⟩)
  go_ret
  exact ⟨rfl, rfl⟩
theorem alu_10 (a b : Int) (w : World) : Calls Tryd.prog 44 #[.int .i64 10, .int .i64 a, .int .i64 b] w fun e w' => e = .returned (.int .i64 (oneD (decide (a % 18446744073709551616 < b % 18446744073709551616)))) ∧ w' = w := by
  go_enter Tryd.func44, Tryd.ntmps44
  go_wp2_with (go_at_call 64; refine (one_any _ _).mono ?_; rintro e w' ⟨rfl, rfl⟩)
  go_ret
  exact ⟨ret_int (by simp [u64_wrap]), rfl⟩
theorem alu_11 (a b : Int) (w : World) : Calls Tryd.prog 44 #[.int .i64 11, .int .i64 a, .int .i64 b] w fun e w' => e = .returned (.int .i64 (wrap64 (a * (2 : Int) ^ (b % 64).toNat))) ∧ w' = w := by
  have hk := and63 b
  have h0 : 0 ≤ b % 64 := by omega
  have h1 : b % 64 ≤ 63 := by omega
  generalize b % 64 = k at *
  generalize hp : (2 : Int) ^ k.toNat = p
  go_enter Tryd.func44, Tryd.ntmps44
  go_wp2
  go_ret
  exact ⟨rfl, rfl⟩
theorem alu_12 (a b : Int) (w : World) : Calls Tryd.prog 44 #[.int .i64 12, .int .i64 a, .int .i64 b] w fun e w' => e = .returned (.int .i64 (wrap64 (a % 18446744073709551616 / (2 : Int) ^ (b % 64).toNat))) ∧ w' = w := by
  have hk := and63 b
  have h0 : 0 ≤ b % 64 := by omega
  have h1 : b % 64 ≤ 63 := by omega
  generalize b % 64 = k at *
  generalize hp : (2 : Int) ^ k.toNat = p
  go_enter Tryd.func44, Tryd.ntmps44
  go_wp2
  go_ret
  exact ⟨ret_int (by simp [u64_wrap]), rfl⟩
theorem alu_13 (a b : Int) (w : World) : Calls Tryd.prog 44 #[.int .i64 13, .int .i64 a, .int .i64 b] w fun e w' => e = .returned (.int .i64 (a / (2 : Int) ^ (b % 64).toNat)) ∧ w' = w := by
  have hk := and63 b
  have h0 : 0 ≤ b % 64 := by omega
  have h1 : b % 64 ≤ 63 := by omega
  generalize b % 64 = k at *
  generalize hp : (2 : Int) ^ k.toNat = p
  go_enter Tryd.func44, Tryd.ntmps44
  go_wp2
  go_ret
  exact ⟨rfl, rfl⟩
theorem alu_14 (a b : Int) (w : World) : Calls Tryd.prog 44 #[.int .i64 14, .int .i64 a, .int .i64 b] w fun e w' => e = .returned (.int .i64 (wrap64 (a + b))) ∧ w' = w := by
  go_enter Tryd.func44, Tryd.ntmps44
  go_wp2
  go_ret
  exact ⟨rfl, rfl⟩
theorem alu_15 (a b : Int) (w : World) : Calls Tryd.prog 44 #[.int .i64 15, .int .i64 a, .int .i64 b] w fun e w' => e = .returned (.int .i64 (bits .and .i64 a b)) ∧ w' = w := by
  go_enter Tryd.func44, Tryd.ntmps44
  go_wp2
  go_ret
  exact ⟨rfl, rfl⟩
theorem alu_16 (a b : Int) (w : World) : Calls Tryd.prog 44 #[.int .i64 16, .int .i64 a, .int .i64 b] w fun e w' => e = .returned (.int .i64 (bits .or .i64 a b)) ∧ w' = w := by
  go_enter Tryd.func44, Tryd.ntmps44
  go_wp2
  go_ret
  exact ⟨rfl, rfl⟩
theorem alu_17 (a b : Int) (w : World) : Calls Tryd.prog 44 #[.int .i64 17, .int .i64 a, .int .i64 b] w fun e w' => e = .returned (.int .i64 (bits .xor .i64 a b)) ∧ w' = w := by
  go_enter Tryd.func44, Tryd.ntmps44
  go_wp2
  go_ret
  exact ⟨rfl, rfl⟩
theorem alu_18 (a b : Int) (w : World) : Calls Tryd.prog 44 #[.int .i64 18, .int .i64 a, .int .i64 b] w fun e w' => e = .returned (.int .i64 (oneD (decide (a < b)))) ∧ w' = w := by
  go_enter Tryd.func44, Tryd.ntmps44
  go_wp2_with (go_at_call 64; refine (one_any _ _).mono ?_; rintro e w' ⟨rfl, rfl⟩)
  go_ret
  exact ⟨rfl, rfl⟩
theorem alu_19 (a b : Int) (w : World) : Calls Tryd.prog 44 #[.int .i64 19, .int .i64 a, .int .i64 b] w fun e w' => e = .returned (.int .i64 (wrap64 (a * (2 : Int) ^ (b % 64).toNat))) ∧ w' = w := by
  have hk := and63 b
  have h0 : 0 ≤ b % 64 := by omega
  have h1 : b % 64 ≤ 63 := by omega
  generalize b % 64 = k at *
  generalize hp : (2 : Int) ^ k.toNat = p
  go_enter Tryd.func44, Tryd.ntmps44
  go_wp2
  go_ret
  exact ⟨rfl, rfl⟩
theorem alu_20 (a b : Int) (w : World) : Calls Tryd.prog 44 #[.int .i64 20, .int .i64 a, .int .i64 b] w fun e w' => e = .returned (.int .i64 (wrap64 (a % 18446744073709551616 / (2 : Int) ^ (b % 64).toNat))) ∧ w' = w := by
  have hk := and63 b
  have h0 : 0 ≤ b % 64 := by omega
  have h1 : b % 64 ≤ 63 := by omega
  generalize b % 64 = k at *
  generalize hp : (2 : Int) ^ k.toNat = p
  go_enter Tryd.func44, Tryd.ntmps44
  go_wp2
  go_ret
  exact ⟨ret_int (by simp [u64_wrap]), rfl⟩
theorem alu_21 (a b : Int) (w : World) : Calls Tryd.prog 44 #[.int .i64 21, .int .i64 a, .int .i64 b] w fun e w' => e = .returned (.int .i64 (a / (2 : Int) ^ (b % 64).toNat)) ∧ w' = w := by
  have hk := and63 b
  have h0 : 0 ≤ b % 64 := by omega
  have h1 : b % 64 ≤ 63 := by omega
  generalize b % 64 = k at *
  generalize hp : (2 : Int) ^ k.toNat = p
  go_enter Tryd.func44, Tryd.ntmps44
  go_wp2
  go_ret
  exact ⟨rfl, rfl⟩

theorem alu_out (op a b : Int) (w : World) (h : op < 1 ∨ 21 < op) : Calls Tryd.prog 44 #[.int .i64 op, .int .i64 a, .int .i64 b] w fun e w' => e = .returned (.int .i64 0) ∧ w' = w := by
  have h1 : ¬ op = 1 := by omega
  have h2 : ¬ op = 2 := by omega
  have h3 : ¬ op = 3 := by omega
  have h4 : ¬ op = 4 := by omega
  have h5 : ¬ op = 5 := by omega
  have h6 : ¬ op = 6 := by omega
  have h7 : ¬ op = 7 := by omega
  have h8 : ¬ op = 8 := by omega
  have h9 : ¬ op = 9 := by omega
  have h10 : ¬ op = 10 := by omega
  have h11 : ¬ op = 11 := by omega
  have h12 : ¬ op = 12 := by omega
  have h13 : ¬ op = 13 := by omega
  have h14 : ¬ op = 14 := by omega
  have h15 : ¬ op = 15 := by omega
  have h16 : ¬ op = 16 := by omega
  have h17 : ¬ op = 17 := by omega
  have h18 : ¬ op = 18 := by omega
  have h19 : ¬ op = 19 := by omega
  have h20 : ¬ op = 20 := by omega
  have h21 : ¬ op = 21 := by omega
  clear h
  go_enter Tryd.func44, Tryd.ntmps44
  go_wp2
  go_ret
  exact ⟨rfl, rfl⟩
theorem alu_any (op a b : Int) (w : World) : Calls Tryd.prog 44 #[.int .i64 op, .int .i64 a, .int .i64 b] w fun e w' => e = .returned (.int .i64 (aluV op a b)) ∧ w' = w := by
  by_cases h : op < 1 ∨ 21 < op
  · have e : aluV op a b = 0 := by
      unfold aluV
      repeat rw [if_neg (by omega)]
    rw [e]
    exact alu_out op a b w h
  · have hc : op = 1 ∨ op = 2 ∨ op = 3 ∨ op = 4 ∨ op = 5 ∨ op = 6 ∨ op = 7 ∨ op = 8 ∨ op = 9 ∨ op = 10 ∨ op = 11 ∨ op = 12 ∨ op = 13 ∨ op = 14 ∨ op = 15 ∨ op = 16 ∨ op = 17 ∨ op = 18 ∨ op = 19 ∨ op = 20 ∨ op = 21 := by omega
    rcases hc with rfl | rfl | rfl | rfl | rfl | rfl | rfl | rfl | rfl | rfl | rfl | rfl | rfl | rfl | rfl | rfl | rfl | rfl | rfl | rfl | rfl
    · exact alu_1 a b w
    · exact alu_2 a b w
    · exact alu_3 a b w
    · exact alu_4 a b w
    · exact alu_5 a b w
    · exact alu_6 a b w
    · exact alu_7 a b w
    · exact alu_8 a b w
    · exact alu_9 a b w
    · exact alu_10 a b w
    · exact alu_11 a b w
    · exact alu_12 a b w
    · exact alu_13 a b w
    · exact alu_14 a b w
    · exact alu_15 a b w
    · exact alu_16 a b w
    · exact alu_17 a b w
    · exact alu_18 a b w
    · exact alu_19 a b w
    · exact alu_20 a b w
    · exact alu_21 a b w
end Go.Proofs.YtaodcpdkobhmfaaDoor.Alu
