/- MachineKeeps: what is put is there: the plain mathematics, and pick. -/
import Derived.Test.YtbobbmkmfcdeeaaDoorI7
namespace Go.Proofs.YtbobbmkmfcdeeaaDoor
open Go Go.RowKit

theorem gth_lay8 (M : Nat → Int) (a : Nat) (v : Int) (h0 : 0 ≤ v) (h1 : v < 18446744073709551616) : gthTo (layTo M a v 8) a 8 = v := by
  rw [gth8]
  have e0 := layTo_in M a v 8 0 (by omega)
  have e1 := layTo_in M a v 8 1 (by omega)
  have e2 := layTo_in M a v 8 2 (by omega)
  have e3 := layTo_in M a v 8 3 (by omega)
  have e4 := layTo_in M a v 8 4 (by omega)
  have e5 := layTo_in M a v 8 5 (by omega)
  have e6 := layTo_in M a v 8 6 (by omega)
  have e7 := layTo_in M a v 8 7 (by omega)
  simp at e0 e1 e2 e3 e4 e5 e6 e7
  rw [e0, e1, e2, e3, e4, e5, e6, e7]
  clear e0 e1 e2 e3 e4 e5 e6 e7
  omega
theorem gth_lay8_out (M : Nat → Int) (a b : Nat) (v : Int) (h : b + 8 ≤ a ∨ a + 8 ≤ b) : gthTo (layTo M a v 8) b 8 = gthTo M b 8 := by
  rw [gth8, gth8]
  rw [layTo_out _ _ _ _ _ (by omega), layTo_out _ _ _ _ _ (by omega), layTo_out _ _ _ _ _ (by omega), layTo_out _ _ _ _ _ (by omega), layTo_out _ _ _ _ _ (by omega), layTo_out _ _ _ _ _ (by omega), layTo_out _ _ _ _ _ (by omega), layTo_out _ _ _ _ _ (by omega)]

/-- The number that is there. -/
def ldV (M : Nat → Int) (i : Nat) : Int := wrap64 (gthTo M i 8)
theorem ld_in (M : Nat → Int) (a : Nat) (v : Int) (h0 : -9223372036854775808 ≤ v) (h1 : v ≤ 9223372036854775807) : ldV (layTo M a (v % 18446744073709551616) 8) a = v := by
  unfold ldV
  rw [gth_lay8 _ _ _ (by omega) (by omega)]
  unfold wrap64
  omega
theorem ld_out (M : Nat → Int) (a b : Nat) (v : Int) (h : b + 8 ≤ a ∨ a + 8 ≤ b) : ldV (layTo M a v 8) b = ldV M b := by
  unfold ldV; rw [gth_lay8_out _ _ _ _ h]
theorem ld_first : ldV (layW [1, 2] 2) 0 = 8589934593 := by
  unfold ldV; rw [gth8]; simp [layW, layTo, wrap64]
theorem layW12 (j : Nat) (h : 8 ≤ j) : layW [1, 2] 2 j = 0 := by
  simp only [layW]
  rw [layTo_out _ _ _ _ _ (by omega), layTo_out _ _ _ _ _ (by omega)]
theorem ld_rest (i : Nat) (h : 8 ≤ i) : ldV (layW [1, 2] 2) i = 0 := by
  unfold ldV; rw [gth8]
  rw [layW12 _ h, layW12 _ (by omega), layW12 _ (by omega), layW12 _ (by omega), layW12 _ (by omega), layW12 _ (by omega), layW12 _ (by omega), layW12 _ (by omega)]
  simp [wrap64]

def pickV (a n : Int) : Int := a % 18446744073709551616 % n
theorem pick_gen (a n : Int) (w : World) (h0 : 0 < n) (h1 : n ≤ 1000000) :
    Calls Tryd.prog 20 #[.int .i64 a, .int .i64 n] w fun e w' => e = .returned (.int .i64 (pickV a n)) ∧ w' = w := by
  have hu := Alu.u64_wrap a
  have hm0 : 0 ≤ a % 18446744073709551616 % n := Int.emod_nonneg _ (by omega)
  have hm1 : a % 18446744073709551616 % n < n := Int.emod_lt_of_pos _ h0
  have HP : Hid (pickV a n = a % 18446744073709551616 % n) := rfl
  have ha0 : 0 ≤ a % 18446744073709551616 := by omega
  generalize a % 18446744073709551616 = x at *
  go_enter Tryd.func20, Tryd.ntmps20
  go_wp2
  go_ret
  exact ⟨ret_int (by rw [HP.out]; try rw [Int.tmod_eq_emod_of_nonneg ha0]), rfl⟩
end Go.Proofs.YtbobbmkmfcdeeaaDoor
