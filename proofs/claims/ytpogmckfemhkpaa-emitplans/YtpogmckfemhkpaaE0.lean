/- Package emit's Plan and cut, walked; where all lies, in plain numbers. -/
import Derived.Test.YtpogmckfemhkpaaRows
import Derived.WalkKit
import Derived.ProofKit
import Derived.OpenShut
namespace Go.Proofs.Ytpogmckfemhkpaa
open Go Go.RowKit

theorem ret_int {k : IntKind} {x y : Int} (h : x = y) : Ending.returned (.int k x) = Ending.returned (.int k y) := by rw [h]
theorem ret_bool {x y : Bool} (h : x = y) : Ending.returned (.bool x) = Ending.returned (.bool y) := by rw [h]
theorem wr {x : Int} (h0 : -4611686018427387904 ≤ x) (h1 : x < 4611686018427387904) : wrap64 x = x := by unfold wrap64; omega
/-- So many without those that make no eight. -/
def cutV (n : Int) : Int := n / 8 * 8
theorem cut_b {n : Int} : cutV n ≤ n ∧ n < cutV n + 8 ∧ cutV n % 8 = 0 := by unfold cutV; omega
theorem cut_any (x n : Int) (hx : x = n) (h0 : 0 ≤ n) (h1 : n < 1099511627776) (w : World) : Calls Try.prog 9 #[.int .i64 x] w fun e w' => e = .returned (.int .i64 (cutV n)) ∧ w' = w := by
  subst hx
  go_enter Try.func9, Try.ntmps9
  go_wp2
  go_ret
  refine ⟨ret_int ?_, rfl⟩
  simp only [cutV]
theorem cut1_any (x n : Int) (hx : x = n) (h0 : 0 ≤ n) (h1 : n < 1099511627776) (w : World) : Calls Try.prog 10 #[.int .i64 x] w fun e w' => e = .returned (.int .i64 (cutV n)) ∧ w' = w := by
  subst hx
  go_enter Try.func10, Try.ntmps10
  go_wp2
  go_ret
  refine ⟨ret_int ?_, rfl⟩
  simp only [cutV]
  omega
/-- A fact that a walk shall not use. -/
def Hid (p : Prop) : Prop := p
theorem Hid.mk {p : Prop} (h : p) : Hid p := h
theorem Hid.get {p : Prop} (h : Hid p) : p := h
theorem cut_ex (x : Int) (h0 : 0 ≤ x) (h1 : x < 1099511627776) (w : World) : Calls Try.prog 9 #[.int .i64 x] w fun e w' => ∃ c, 0 ≤ c ∧ c ≤ x ∧ Hid (c = cutV x) ∧ e = .returned (.int .i64 c) ∧ w' = w :=
  (cut_any x x rfl h0 h1 w).mono fun _ _ ⟨a, b⟩ => ⟨cutV x, by unfold cutV; omega, cut_b.1, Hid.mk rfl, a, b⟩
theorem cut1_ex (x : Int) (h0 : 0 ≤ x) (h1 : x < 1099511627776) (w : World) : Calls Try.prog 10 #[.int .i64 x] w fun e w' => ∃ c, 0 ≤ c ∧ c ≤ x ∧ Hid (c = cutV x) ∧ e = .returned (.int .i64 c) ∧ w' = w :=
  (cut1_any x x rfl h0 h1 w).mono fun _ _ ⟨a, b⟩ => ⟨cutV x, by unfold cutV; omega, cut_b.1, Hid.mk rfl, a, b⟩
def codeV (a : Int) : Int := cutV (4 * a + 7)
def restV (a b : Int) : Int := max 0 (b - codeV a)
def rootV (a b : Int) : Int := cutV (restV a b / 8)
def stackV (a b : Int) : Int := cutV (restV a b / 4)
def halfV (a b : Int) : Int := cutV ((restV a b - rootV a b - stackV a b) / 2)
def planV (a b : Int) : Value := .agg #[.int .i64 (codeV a), .int .i64 (codeV a), .int .i64 (codeV a + rootV a b), .int .i64 (codeV a + rootV a b + halfV a b), .int .i64 (b - stackV a b), .int .i64 b]
end Go.Proofs.Ytpogmckfemhkpaa
