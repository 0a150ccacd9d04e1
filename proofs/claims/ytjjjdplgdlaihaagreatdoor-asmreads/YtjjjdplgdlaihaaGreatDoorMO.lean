/- Where the bits of N lie: pieces of the document's own answer, walked, kind by kind. Bits of a number, one by one, as a sum. -/
import Derived.Test.YtjjjdplgdlaihaaGreatDoorMH
import Derived.Test.YtjjjdplgdlaihaaGreatDoorML
namespace Go.Proofs.YtjjjdplgdlaihaaGreatDoor
open Go Go.RowKit

/-- Pieces, as cells. -/
def pieceCells (l : List (Int × Int × Int)) : List Value := l.flatMap fun p => [.int .i64 p.1, .int .i64 p.2.1, .int .i64 p.2.2]
def piecesL : List (List (Int × Int × Int)) := [[], [(0, 12, 20)], [(0, 6, 20)], [(0, 5, 7), (5, 7, 25)], [(11, 1, 7), (1, 4, 8), (5, 6, 25), (12, 1, 31)], [(12, 20, 12)], [(12, 8, 12), (11, 1, 20), (1, 10, 21), (20, 1, 31)], []]
set_option maxHeartbeats 1000000 in
theorem pieces_0 (w : World) : Calls Tryz.prog 42 #[.int .u8 82] w fun e w' => e = .returned (.slice none 0 0) ∧ w' = w := by
  go_enter Tryz.func42, Tryz.ntmps42
  go_wp2
  go_ret
  exact ⟨rfl, rfl⟩
set_option maxHeartbeats 1000000 in
theorem pieces_1 (w : World) : Calls Tryz.prog 42 #[.int .u8 73] w fun e w' => e = .returned (.slice (some ⟨w.heap.size, 0, none⟩) 1 1) ∧ w' = w.alloc (.cells #[.int .i64 0, .int .i64 12, .int .i64 20] 97) := by
  go_enter Tryz.func42, Tryz.ntmps42
  go_wp2
  go_ret
  exact ⟨rfl, rfl⟩
set_option maxHeartbeats 1000000 in
theorem pieces_2 (w : World) : Calls Tryz.prog 42 #[.int .u8 72] w fun e w' => e = .returned (.slice (some ⟨w.heap.size, 0, none⟩) 1 1) ∧ w' = w.alloc (.cells #[.int .i64 0, .int .i64 6, .int .i64 20] 97) := by
  go_enter Tryz.func42, Tryz.ntmps42
  go_wp2
  go_ret
  exact ⟨rfl, rfl⟩
set_option maxHeartbeats 1000000 in
theorem pieces_3 (w : World) : Calls Tryz.prog 42 #[.int .u8 83] w fun e w' => e = .returned (.slice (some ⟨w.heap.size, 0, none⟩) 2 2) ∧ w' = w.alloc (.cells #[.int .i64 0, .int .i64 5, .int .i64 7, .int .i64 5, .int .i64 7, .int .i64 25] 97) := by
  go_enter Tryz.func42, Tryz.ntmps42
  go_wp2
  go_ret
  exact ⟨rfl, rfl⟩
set_option maxHeartbeats 1000000 in
theorem pieces_4 (w : World) : Calls Tryz.prog 42 #[.int .u8 66] w fun e w' => e = .returned (.slice (some ⟨w.heap.size, 0, none⟩) 4 4) ∧ w' = w.alloc (.cells #[.int .i64 11, .int .i64 1, .int .i64 7, .int .i64 1, .int .i64 4, .int .i64 8, .int .i64 5, .int .i64 6, .int .i64 25, .int .i64 12, .int .i64 1, .int .i64 31] 97) := by
  go_enter Tryz.func42, Tryz.ntmps42
  go_wp2
  go_ret
  exact ⟨rfl, rfl⟩
set_option maxHeartbeats 1000000 in
theorem pieces_5 (w : World) : Calls Tryz.prog 42 #[.int .u8 85] w fun e w' => e = .returned (.slice (some ⟨w.heap.size, 0, none⟩) 1 1) ∧ w' = w.alloc (.cells #[.int .i64 12, .int .i64 20, .int .i64 12] 97) := by
  go_enter Tryz.func42, Tryz.ntmps42
  go_wp2
  go_ret
  exact ⟨rfl, rfl⟩
set_option maxHeartbeats 1000000 in
theorem pieces_6 (w : World) : Calls Tryz.prog 42 #[.int .u8 74] w fun e w' => e = .returned (.slice (some ⟨w.heap.size, 0, none⟩) 4 4) ∧ w' = w.alloc (.cells #[.int .i64 12, .int .i64 8, .int .i64 12, .int .i64 11, .int .i64 1, .int .i64 20, .int .i64 1, .int .i64 10, .int .i64 21, .int .i64 20, .int .i64 1, .int .i64 31] 97) := by
  go_enter Tryz.func42, Tryz.ntmps42
  go_wp2
  go_ret
  exact ⟨rfl, rfl⟩
set_option maxHeartbeats 1000000 in
theorem pieces_7 (w : World) : Calls Tryz.prog 42 #[.int .u8 69] w fun e w' => e = .returned (.slice none 0 0) ∧ w' = w := by
  go_enter Tryz.func42, Tryz.ntmps42
  go_wp2
  go_ret
  exact ⟨rfl, rfl⟩
end Go.Proofs.YtjjjdplgdlaihaaGreatDoor

namespace Go.Proofs.YtjjjdplgdlaihaaGreatDoor
open Go Go.RowKit
theorem bit_step (n : Int) (f q : Nat) : n / (2 : Int) ^ f % (2 : Int) ^ (q + 1) = n / (2 : Int) ^ f % (2 : Int) ^ q + n / (2 : Int) ^ (f + q) % 2 * (2 : Int) ^ q := by
  have hp : 0 < (2 : Int) ^ q := by exact_mod_cast Nat.two_pow_pos q
  have hf : 0 ≤ (2 : Int) ^ f := by have : 0 < (2 : Int) ^ f := by exact_mod_cast Nat.two_pow_pos f
                                    omega
  rw [Int.pow_add 2 f q, ← Int.ediv_ediv_of_nonneg hf, Int.pow_succ]
  generalize n / (2 : Int) ^ f = x
  generalize (2 : Int) ^ q = P at hp
  have e1 := Int.emod_add_mul_ediv x P
  have e2 := Int.emod_add_mul_ediv (x / P) 2
  have b1 := Int.emod_nonneg x (Int.ne_of_gt hp)
  have b2 := Int.emod_lt_of_pos x hp
  generalize x / P = a at e1 e2
  generalize x % P = r at e1 b1 b2
  have e3 : x = (r + a % 2 * P) + P * 2 * (a / 2) := by
    rw [← e1]
    conv => lhs; rw [← e2]
    rw [Int.mul_add, Int.mul_assoc, Int.mul_comm P (a % 2)]
    omega
  rw [e3, Int.add_mul_emod_self_left]
  have hm : a % 2 = 0 ∨ a % 2 = 1 := by omega
  rcases hm with hm | hm <;> rw [hm] <;> exact Int.emod_eq_of_lt (by omega) (by omega)
theorem shl1 (t : Nat) (h : t ≤ 31) (w : World) : Sem.run Tryz.prog (Op.shift .shl .u32 1 .i64 (t : Int)) w = .ok (.int .u32 ((2 : Int) ^ t)) w := by
  have hc : t = 0 ∨ t = 1 ∨ t = 2 ∨ t = 3 ∨ t = 4 ∨ t = 5 ∨ t = 6 ∨ t = 7 ∨ t = 8 ∨ t = 9 ∨ t = 10 ∨ t = 11 ∨ t = 12 ∨ t = 13 ∨ t = 14 ∨ t = 15 ∨ t = 16 ∨ t = 17 ∨ t = 18 ∨ t = 19 ∨ t = 20 ∨ t = 21 ∨ t = 22 ∨ t = 23 ∨ t = 24 ∨ t = 25 ∨ t = 26 ∨ t = 27 ∨ t = 28 ∨ t = 29 ∨ t = 30 ∨ t = 31 := by omega
  rcases hc with rfl | rfl | rfl | rfl | rfl | rfl | rfl | rfl | rfl | rfl | rfl | rfl | rfl | rfl | rfl | rfl | rfl | rfl | rfl | rfl | rfl | rfl | rfl | rfl | rfl | rfl | rfl | rfl | rfl | rfl | rfl | rfl <;> (clear h; first | rfl | kernel_rfl)
theorem and1 (x : Int) : bits .and .i64 x 1 = x % 2 := and64 x 1 (by omega)
def psum (n : Int) (F C T : Nat → Nat) (y0 : Int) : Nat → Int
  | 0 => y0
  | j + 1 => (psum n F C T y0 j + n / (2 : Int) ^ F j % (2 : Int) ^ C j * (2 : Int) ^ T j) % 4294967296
theorem psum_mod (n : Int) (F C T : Nat → Nat) (y0 : Int) (h : y0 % 4294967296 = y0) (j : Nat) : psum n F C T y0 j % 4294967296 = psum n F C T y0 j := by
  cases j with
  | zero => exact h
  | succ j => simp [psum]
end Go.Proofs.YtjjjdplgdlaihaaGreatDoor
