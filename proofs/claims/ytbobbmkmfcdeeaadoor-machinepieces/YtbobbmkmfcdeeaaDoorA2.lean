/- Package word's small functions, walked: ones, registerFits, register, pick, opBits, numberFits, spread, gather. -/
import Derived.Test.YtbobbmkmfcdeeaaDoorA1
namespace Go.Proofs.YtbobbmkmfcdeeaaDoor
open Go Go.RowKit

theorem ret_int {k : IntKind} {a b : Int} (h : a = b) : Ending.returned (.int k a) = .returned (.int k b) := by rw [h]
theorem ret_bool {a b : Bool} (h : a = b) : Ending.returned (.bool a) = .returned (.bool b) := by rw [h]

set_option maxHeartbeats 400000 in
theorem ones_any (c p : Int) (w : World) (h0 : 0 ≤ c) (h1 : c ≤ 32) (hp : (2 : Int) ^ c.toNat = p) (hp1 : 1 ≤ p) (hp2 : p ≤ 4294967296) :
    Calls Tryd.prog 70 #[.int .u8 c] w fun e w' => e = .returned (.int .i64 (p - 1)) ∧ w' = w := by
  go_enter Tryd.func70, Tryd.ntmps70
  go_wp2
  go_ret
  exact ⟨rfl, rfl⟩

def fitB (r : Int) (has : Bool) : Bool := r == 0 || has && decide (0 < r) && decide (r < 32)

set_option maxHeartbeats 400000 in
theorem registerFits_any (r : Int) (has : Bool) (w : World) :
    Calls Tryd.prog 68 #[.int .i64 r, .bool has] w fun e w' => e = .returned (.bool (fitB r has)) ∧ w' = w := by
  by_cases h0 : r = 0
  · subst h0
    go_enter Tryd.func68, Tryd.ntmps68
    go_wp2
    go_ret
    exact ⟨ret_bool (by simp [fitB]), rfl⟩
  · have h0' : (r == 0) = false := by simpa using h0
    cases has
    · go_enter Tryd.func68, Tryd.ntmps68
      go_wp2
      go_ret
      exact ⟨ret_bool (by simp [fitB, h0']), rfl⟩
    · by_cases h1 : 0 < r
      · go_enter Tryd.func68, Tryd.ntmps68
        go_wp2
        go_ret
        exact ⟨ret_bool (by simp [fitB, h0', h1]), rfl⟩
      · go_enter Tryd.func68, Tryd.ntmps68
        go_wp2
        go_ret
        exact ⟨ret_bool (by simp [fitB, h0']; omega), rfl⟩

def regV (x p : Int) (has : Bool) : Int := if has then bits .and .u32 (x / p) 31 else 0
theorem bits_u32_lt (op : BinOp) (x y : Int) : 0 ≤ bits op .u32 x y ∧ bits op .u32 x y < 4294967296 := by
  unfold bits
  generalize (match op with
    | .and => BitVec.ofInt IntKind.u32.bits x &&& BitVec.ofInt IntKind.u32.bits y
    | .or => BitVec.ofInt IntKind.u32.bits x ||| BitVec.ofInt IntKind.u32.bits y
    | .xor => BitVec.ofInt IntKind.u32.bits x ^^^ BitVec.ofInt IntKind.u32.bits y
    | _ => BitVec.ofInt IntKind.u32.bits x &&& ~~~BitVec.ofInt IntKind.u32.bits y) = z
  have := z.isLt
  simp only [IntKind.wrap, IntKind.bits, IntKind.signed] at *
  simp
  omega

set_option maxHeartbeats 400000 in
theorem register_any (x a p : Int) (has : Bool) (w : World) (h0 : 0 ≤ a) (h1 : a ≤ 31) (hp : (2 : Int) ^ a.toNat = p) :
    Calls Tryd.prog 72 #[.int .u32 x, .int .u8 a, .bool has] w fun e w' => e = .returned (.int .i64 (regV x p has)) ∧ w' = w := by
  have hb := bits_u32_lt .and (x / p) 31
  obtain ⟨hb0, hb1⟩ := hb
  cases has
  · go_enter Tryd.func72, Tryd.ntmps72
    go_wp2
    go_ret
    exact ⟨ret_int (by simp [regV]), rfl⟩
  · go_enter Tryd.func72, Tryd.ntmps72
    go_wp2
    go_ret
    exact ⟨ret_int (by simp [regV]), rfl⟩

set_option maxHeartbeats 400000 in
theorem pick_any (a : Int) (w : World) :
    Calls Tryd.prog 20 #[.int .i64 a, .int .i64 32] w fun e w' => e = .returned (.int .i64 (a % 32)) ∧ w' = w := by
  have hu : (IntKind.u64.wrap a).tmod 32 = a % 32 := by
    have : IntKind.u64.wrap a = a % 18446744073709551616 := by simp [IntKind.wrap, IntKind.bits, IntKind.signed]
    rw [this, Int.tmod_eq_emod_of_nonneg (by omega)]
    omega
  have hr : 0 ≤ a % 32 ∧ a % 32 < 32 := by omega
  obtain ⟨hr0, hr1⟩ := hr
  go_enter Tryd.func20, Tryd.ntmps20
  go_wp2
  go_ret
  exact ⟨rfl, rfl⟩

def obV (l m h : Int) : Int := bits .or .u32 (bits .or .u32 l (m * 4096)) (h * 33554432)
set_option maxHeartbeats 400000 in
theorem opBits_any (k l m h : Int) (w : World) (hl : 0 ≤ l) (hl1 : l < 128) (hm : 0 ≤ m) (hm1 : m < 8) (hh : 0 ≤ h) (hh1 : h < 128) :
    Calls Tryd.prog 58 #[.agg #[.int .u8 k, .int .u8 l, .int .u8 m, .int .u8 h]] w fun e w' => e = .returned (.int .u32 (obV l m h)) ∧ Below w.heap.size w w' := by
  go_enter Tryd.func58, Tryd.ntmps58
  go_wp2
  go_ret
  exact ⟨rfl, (Below.refl _ _).alloc (Nat.le_refl _) _⟩
end Go.Proofs.YtbobbmkmfcdeeaaDoor
