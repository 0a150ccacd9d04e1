/- The document's own answer: its small functions, walked: in, has, signs. -/
import Derived.Test.YtaodcpdkobhmfaaDoorC1
namespace Go.Proofs.YtaodcpdkobhmfaaDoor
open Go Go.RowKit

set_option maxHeartbeats 400000 in
theorem in_any (n lo hi : Int) (w : World) :
    Calls Tryd.prog 36 #[.int .i64 n, .int .i64 lo, .int .i64 hi] w fun e w' => e = .returned (.bool (decide (lo ≤ n) && decide (n ≤ hi))) ∧ w' = w := by
  by_cases h : lo ≤ n
  · go_enter Tryd.func36, Tryd.ntmps36
    go_wp2
    go_ret
    exact ⟨ret_bool (by simp [h]), rfl⟩
  · go_enter Tryd.func36, Tryd.ntmps36
    go_wp2
    go_ret
    exact ⟨ret_bool (by simp; omega), rfl⟩

/-- The letters of the kinds, which registers they have, how many bits, of what a multiple. -/
def kcL : List Int := [82, 73, 72, 83, 66, 85, 74, 69]
def hasL : List ByteArray := [⟨#[100, 97, 98]⟩, ⟨#[100, 97]⟩, ⟨#[100, 97]⟩, ⟨#[97, 98]⟩, ⟨#[97, 98]⟩, ⟨#[100]⟩, ⟨#[100]⟩, ⟨#[]⟩]
def bitsL : List Int := [0, 12, 0, 12, 13, 32, 21, 0]
def ofL : List Int := [1, 1, 1, 1, 2, 4096, 2, 1]
set_option maxHeartbeats 400000 in
theorem has_0 (w : World) : Calls Tryd.prog 47 #[.int .u8 82] w fun e w' => e = .returned (.string ⟨#[100, 97, 98]⟩) ∧ w' = w := by
  go_enter Tryd.func47, Tryd.ntmps47
  go_wp2
  go_ret
  exact ⟨rfl, rfl⟩
set_option maxHeartbeats 400000 in
theorem signs_0 (w : World) : Calls Tryd.prog 49 #[.int .u8 82] w fun e w' => e = .returned (.tuple #[.int .i64 0, .int .i64 1]) ∧ w' = w := by
  go_enter Tryd.func49, Tryd.ntmps49
  go_wp2
  go_ret2
  exact ⟨rfl, rfl⟩
set_option maxHeartbeats 400000 in
theorem has_1 (w : World) : Calls Tryd.prog 47 #[.int .u8 73] w fun e w' => e = .returned (.string ⟨#[100, 97]⟩) ∧ w' = w := by
  go_enter Tryd.func47, Tryd.ntmps47
  go_wp2
  go_ret
  exact ⟨rfl, rfl⟩
set_option maxHeartbeats 400000 in
theorem signs_1 (w : World) : Calls Tryd.prog 49 #[.int .u8 73] w fun e w' => e = .returned (.tuple #[.int .i64 12, .int .i64 1]) ∧ w' = w := by
  go_enter Tryd.func49, Tryd.ntmps49
  go_wp2
  go_ret2
  exact ⟨rfl, rfl⟩
set_option maxHeartbeats 400000 in
theorem has_2 (w : World) : Calls Tryd.prog 47 #[.int .u8 72] w fun e w' => e = .returned (.string ⟨#[100, 97]⟩) ∧ w' = w := by
  go_enter Tryd.func47, Tryd.ntmps47
  go_wp2
  go_ret
  exact ⟨rfl, rfl⟩
set_option maxHeartbeats 400000 in
theorem signs_2 (w : World) : Calls Tryd.prog 49 #[.int .u8 72] w fun e w' => e = .returned (.tuple #[.int .i64 0, .int .i64 1]) ∧ w' = w := by
  go_enter Tryd.func49, Tryd.ntmps49
  go_wp2
  go_ret2
  exact ⟨rfl, rfl⟩
set_option maxHeartbeats 400000 in
theorem has_3 (w : World) : Calls Tryd.prog 47 #[.int .u8 83] w fun e w' => e = .returned (.string ⟨#[97, 98]⟩) ∧ w' = w := by
  go_enter Tryd.func47, Tryd.ntmps47
  go_wp2
  go_ret
  exact ⟨rfl, rfl⟩
set_option maxHeartbeats 400000 in
theorem signs_3 (w : World) : Calls Tryd.prog 49 #[.int .u8 83] w fun e w' => e = .returned (.tuple #[.int .i64 12, .int .i64 1]) ∧ w' = w := by
  go_enter Tryd.func49, Tryd.ntmps49
  go_wp2
  go_ret2
  exact ⟨rfl, rfl⟩
set_option maxHeartbeats 400000 in
theorem has_4 (w : World) : Calls Tryd.prog 47 #[.int .u8 66] w fun e w' => e = .returned (.string ⟨#[97, 98]⟩) ∧ w' = w := by
  go_enter Tryd.func47, Tryd.ntmps47
  go_wp2
  go_ret
  exact ⟨rfl, rfl⟩
set_option maxHeartbeats 400000 in
theorem signs_4 (w : World) : Calls Tryd.prog 49 #[.int .u8 66] w fun e w' => e = .returned (.tuple #[.int .i64 13, .int .i64 2]) ∧ w' = w := by
  go_enter Tryd.func49, Tryd.ntmps49
  go_wp2
  go_ret2
  exact ⟨rfl, rfl⟩
set_option maxHeartbeats 400000 in
theorem has_5 (w : World) : Calls Tryd.prog 47 #[.int .u8 85] w fun e w' => e = .returned (.string ⟨#[100]⟩) ∧ w' = w := by
  go_enter Tryd.func47, Tryd.ntmps47
  go_wp2
  go_ret
  exact ⟨rfl, rfl⟩
set_option maxHeartbeats 400000 in
theorem signs_5 (w : World) : Calls Tryd.prog 49 #[.int .u8 85] w fun e w' => e = .returned (.tuple #[.int .i64 32, .int .i64 4096]) ∧ w' = w := by
  go_enter Tryd.func49, Tryd.ntmps49
  go_wp2
  go_ret2
  exact ⟨rfl, rfl⟩
set_option maxHeartbeats 400000 in
theorem has_6 (w : World) : Calls Tryd.prog 47 #[.int .u8 74] w fun e w' => e = .returned (.string ⟨#[100]⟩) ∧ w' = w := by
  go_enter Tryd.func47, Tryd.ntmps47
  go_wp2
  go_ret
  exact ⟨rfl, rfl⟩
set_option maxHeartbeats 400000 in
theorem signs_6 (w : World) : Calls Tryd.prog 49 #[.int .u8 74] w fun e w' => e = .returned (.tuple #[.int .i64 21, .int .i64 2]) ∧ w' = w := by
  go_enter Tryd.func49, Tryd.ntmps49
  go_wp2
  go_ret2
  exact ⟨rfl, rfl⟩
set_option maxHeartbeats 400000 in
theorem has_7 (w : World) : Calls Tryd.prog 47 #[.int .u8 69] w fun e w' => e = .returned (.string ⟨#[]⟩) ∧ w' = w := by
  go_enter Tryd.func47, Tryd.ntmps47
  go_wp2
  go_ret
  exact ⟨rfl, rfl⟩
set_option maxHeartbeats 400000 in
theorem signs_7 (w : World) : Calls Tryd.prog 49 #[.int .u8 69] w fun e w' => e = .returned (.tuple #[.int .i64 0, .int .i64 1]) ∧ w' = w := by
  go_enter Tryd.func49, Tryd.ntmps49
  go_wp2
  go_ret2
  exact ⟨rfl, rfl⟩
end Go.Proofs.YtaodcpdkobhmfaaDoor
