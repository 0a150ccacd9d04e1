/- Package word's small functions, walked: ones, registerFits, register, pick, opBits, numberFits, spread, gather. -/
import Derived.Test.YtjjjdplgdlaihaaGreatDoorA1
namespace Go.Proofs.YtjjjdplgdlaihaaGreatDoor
open Go Go.RowKit

theorem ret_int {k : IntKind} {a b : Int} (h : a = b) : Ending.returned (.int k a) = .returned (.int k b) := by rw [h]
theorem ret_bool {a b : Bool} (h : a = b) : Ending.returned (.bool a) = .returned (.bool b) := by rw [h]

set_option maxHeartbeats 400000 in
theorem ones_any (c p : Int) (w : World) (h0 : 0 ≤ c) (h1 : c ≤ 32) (hp : (2 : Int) ^ c.toNat = p) (hp1 : 1 ≤ p) (hp2 : p ≤ 4294967296) :
    Calls Tryz.prog 97 #[.int .u8 c] w fun e w' => e = .returned (.int .i64 (p - 1)) ∧ w' = w := by
  go_enter Tryz.func97, Tryz.ntmps97
  go_wp2
  go_ret
  exact ⟨rfl, rfl⟩

def fitB (r : Int) (has : Bool) : Bool := r == 0 || has && decide (0 < r) && decide (r < 32)

set_option maxHeartbeats 400000 in
theorem registerFits_any (r : Int) (has : Bool) (w : World) :
    Calls Tryz.prog 71 #[.int .i64 r, .bool has] w fun e w' => e = .returned (.bool (fitB r has)) ∧ w' = w := by
  by_cases h0 : r = 0
  · subst h0
    go_enter Tryz.func71, Tryz.ntmps71
    go_wp2
    go_ret
    exact ⟨ret_bool (by simp [fitB]), rfl⟩
  · have h0' : (r == 0) = false := by simpa using h0
    cases has
    · go_enter Tryz.func71, Tryz.ntmps71
      go_wp2
      go_ret
      exact ⟨ret_bool (by simp [fitB, h0']), rfl⟩
    · by_cases h1 : 0 < r
      · go_enter Tryz.func71, Tryz.ntmps71
        go_wp2
        go_ret
        exact ⟨ret_bool (by simp [fitB, h0', h1]), rfl⟩
      · go_enter Tryz.func71, Tryz.ntmps71
        go_wp2
        go_ret
        exact ⟨ret_bool (by simp [fitB, h0']; omega), rfl⟩

def regV (x p : Int) (has : Bool) : Int := if has then bits .and .u32 (x / p) 31 else 0
theorem bits_u32_lt (op : BinOp) (x y : Int) : 0 ≤ bits op .u32 x y ∧ bits op .u32 x y < 4294967296 := by
  unfold bits
  generalize (match op with
    | .and => BitVec.ofInt IntKind.u32.bits x &&& BitVec.ofInt IntKind.u32.bits y
    | .or => BitVec.ofInt IntKind.u32.bits x ||| BitVec.ofInt IntKind.u32.bits y
    | .xor => BitVec.ofInt IntKind.u32.bits x ^^^ BitVec.ofInt IntKind.u32.bits y
    | _ => BitVec.ofInt IntKind.u32.bits x &&& ~~~BitVec.ofInt IntKind.u32.bits y) = z
  have := z.isLt
  simp only [IntKind.wrap, IntKind.bits, IntKind.signed] at *
  simp
  omega

def obV (l m h : Int) : Int := bits .or .u32 (bits .or .u32 l (m * 4096)) (h * 33554432)
end Go.Proofs.YtjjjdplgdlaihaaGreatDoor
