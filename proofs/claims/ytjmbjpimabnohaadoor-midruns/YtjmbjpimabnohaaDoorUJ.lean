/- The document's quotient (19) and Both (6), walked. -/
import Derived.Test.YtjmbjpimabnohaaDoorNB
import Derived.Deep.QuietTactic
import Derived.WalkKit
import Derived.ProofKit
namespace Go.Proofs.YtjmbjpimabnohaaDoor.Mid
set_option linter.unusedVariables false
set_option linter.unusedSimpArgs false
open Go Go.RowKit

def quoD (a b : Int) : Int := if b = 0 then -1 else wrap64 (a.tdiv b)
def remD (a b : Int) : Int := if b = 0 then a else a.tmod b
theorem u64_wrap (a : Int) : IntKind.u64.wrap a = a % 18446744073709551616 := by
  simp [IntKind.wrap, IntKind.bits, IntKind.signed]
def absU (a : Int) : Int := if a < 0 then (-(a % 18446744073709551616)) % 18446744073709551616 else a % 18446744073709551616
theorem absU_eq (a : Int) (h0 : -9223372036854775808 ≤ a) (h1 : a ≤ 9223372036854775807) : absU a = (a.natAbs : Int) := by
  unfold absU; split <;> omega
theorem quoV (a b : Int) (ha0 : -9223372036854775808 ≤ a) (ha1 : a ≤ 9223372036854775807) (hb0 : -9223372036854775808 ≤ b) (hb1 : b ≤ 9223372036854775807) (hb : b ≠ 0) :
    (if (decide (a < 0) != decide (b < 0)) = true then wrap64 (-(wrap64 (absU a / absU b))) else wrap64 (absU a / absU b)) = wrap64 (a.tdiv b) := by
  rw [absU_eq a ha0 ha1, absU_eq b hb0 hb1]
  have hq : ((a.natAbs : Int) / (b.natAbs : Int)) = ((a.natAbs / b.natAbs : Nat) : Int) := (Int.natCast_ediv _ _).symm
  by_cases h1 : a < 0 <;> by_cases h2 : b < 0 <;> simp [h1, h2]
  · have : a.tdiv b = (a.natAbs : Int) / (b.natAbs : Int) := by
      obtain ⟨x, rfl⟩ : ∃ x, a = -x := ⟨-a, by omega⟩
      obtain ⟨y, rfl⟩ : ∃ y, b = -y := ⟨-b, by omega⟩
      rw [Int.neg_tdiv, Int.tdiv_neg, Int.neg_neg, Int.tdiv_eq_ediv_of_nonneg (by omega), Int.natAbs_neg, Int.natAbs_neg, Int.natAbs_of_nonneg (by omega), Int.natAbs_of_nonneg (by omega)]
    rw [this]
  · have : a.tdiv b = -((a.natAbs : Int) / (b.natAbs : Int)) := by
      obtain ⟨x, rfl⟩ : ∃ x, a = -x := ⟨-a, by omega⟩
      rw [Int.neg_tdiv, Int.tdiv_eq_ediv_of_nonneg (by omega), Int.natAbs_neg, Int.natAbs_of_nonneg (by omega), Int.natAbs_of_nonneg (by omega)]
    rw [this]
    generalize (a.natAbs : Int) / (b.natAbs : Int) = q
    unfold wrap64; omega
  · have : a.tdiv b = -((a.natAbs : Int) / (b.natAbs : Int)) := by
      obtain ⟨y, rfl⟩ : ∃ y, b = -y := ⟨-b, by omega⟩
      rw [Int.tdiv_neg, Int.tdiv_eq_ediv_of_nonneg (by omega), Int.natAbs_neg, Int.natAbs_of_nonneg (by omega), Int.natAbs_of_nonneg (by omega)]
    rw [this]
    generalize (a.natAbs : Int) / (b.natAbs : Int) = q
    unfold wrap64; omega
  · have : a.tdiv b = (a.natAbs : Int) / (b.natAbs : Int) := by
      rw [Int.tdiv_eq_ediv_of_nonneg (by omega), Int.natAbs_of_nonneg (by omega), Int.natAbs_of_nonneg (by omega)]
    rw [this]
theorem remV (a b : Int) (ha0 : -9223372036854775808 ≤ a) (ha1 : a ≤ 9223372036854775807) (hb0 : -9223372036854775808 ≤ b) (hb1 : b ≤ 9223372036854775807) (hb : b ≠ 0) :
    (if a < 0 then wrap64 (-(wrap64 (absU a % absU b))) else wrap64 (absU a % absU b)) = a.tmod b := by
  rw [absU_eq a ha0 ha1, absU_eq b hb0 hb1]
  have hm0 : 0 ≤ (a.natAbs : Int) % (b.natAbs : Int) := Int.emod_nonneg _ (by omega)
  have hm1 : (a.natAbs : Int) % (b.natAbs : Int) < (b.natAbs : Int) := Int.emod_lt_of_pos _ (by omega)
  have hm2 : (a.natAbs : Int) % (b.natAbs : Int) ≤ (a.natAbs : Int) := by
    rw [← Int.natCast_emod]; exact Int.ofNat_le.2 (Nat.mod_le _ _)
  have ht : a.tmod b = if a < 0 then -((a.natAbs : Int) % (b.natAbs : Int)) else (a.natAbs : Int) % (b.natAbs : Int) := by
    have hb' : a.tmod b = a.tmod (b.natAbs : Int) := by
      by_cases h2 : b < 0
      · obtain ⟨y, rfl⟩ : ∃ y, b = -y := ⟨-b, by omega⟩
        rw [Int.tmod_neg, Int.natAbs_neg, Int.natAbs_of_nonneg (by omega)]
      · rw [Int.natAbs_of_nonneg (by omega)]
    rw [hb']
    by_cases h1 : a < 0
    · rw [if_pos h1]
      obtain ⟨x, rfl⟩ : ∃ x, a = -x := ⟨-a, by omega⟩
      rw [Int.neg_tmod, Int.tmod_eq_emod_of_nonneg (by omega), Int.natAbs_neg, Int.natAbs_of_nonneg (a := x) (by omega)]
    · rw [if_neg h1, Int.tmod_eq_emod_of_nonneg (by omega), Int.natAbs_of_nonneg (a := a) (by omega)]
  rw [ht]
  generalize (a.natAbs : Int) % (b.natAbs : Int) = m at *
  by_cases h1 : a < 0
  · rw [if_pos h1, if_pos h1]; unfold wrap64; omega
  · rw [if_neg h1, if_neg h1]; unfold wrap64; omega
theorem i64w (x : Int) : IntKind.i64.wrap x = wrap64 x := by rw [IntKind.wrap_i64, wrap64]
set_option maxHeartbeats 2000000 in
theorem quo_any (a b : Int) (w : World) (ha0 : -9223372036854775808 ≤ a) (ha1 : a ≤ 9223372036854775807) (hb0 : -9223372036854775808 ≤ b) (hb1 : b ≤ 9223372036854775807) :
    Calls Tryd.prog 19 #[.int .i64 a, .int .i64 b] w fun e w' => e = .returned (.tuple #[.int .i64 (quoD a b), .int .i64 (remD a b)]) ∧ ∃ n, w' = w.drewN n := by
  by_cases h : b = 0
  · subst h
    go_enter Tryd.func19, Tryd.ntmps19
    go_wp2
    go_ret2
    exact ⟨rfl, 0, rfl⟩
  · have hq := quoV a b ha0 ha1 hb0 hb1 h
    have hr := remV a b ha0 ha1 hb0 hb1 h
    have hq' : quoD a b = wrap64 (a.tdiv b) := by simp [quoD, h]
    have hr' : remD a b = a.tmod b := by simp [remD, h]
    rw [← hq] at hq'
    rw [← hr] at hr'
    have HQ : Hid (quoD a b = _) := hq'
    have HR : Hid (remD a b = _) := hr'
    clear hq hr hq' hr'
    have eX := absU_eq a ha0 ha1
    have eY := absU_eq b hb0 hb1
    have uX : absU a = if a < 0 then IntKind.u64.wrap (-(IntKind.u64.wrap a)) else IntKind.u64.wrap a := by simp only [absU, u64_wrap]
    have uY : absU b = if b < 0 then IntKind.u64.wrap (-(IntKind.u64.wrap b)) else IntKind.u64.wrap b := by simp only [absU, u64_wrap]
    generalize absU a = X at *
    generalize absU b = Y at *
    have x0 : 0 ≤ X := by omega
    have y0 : 0 < Y := by omega
    have yn : ¬ Y = 0 := by omega
    have td : X.tdiv Y = X / Y := Int.tdiv_eq_ediv_of_nonneg x0
    have tm : X.tmod Y = X % Y := Int.tmod_eq_emod_of_nonneg x0
    have uq : IntKind.u64.wrap (X / Y) = X / Y := by
      rw [u64_wrap]
      have k0 : 0 ≤ X / Y := Int.ediv_nonneg x0 (by omega)
      have k1 : X / Y ≤ X := Int.ediv_le_self Y x0
      omega
    have um : IntKind.u64.wrap (X % Y) = X % Y := by
      rw [u64_wrap]
      have k0 : 0 ≤ X % Y := Int.emod_nonneg X yn
      have k1 : X % Y < Y := Int.emod_lt_of_pos X y0
      omega
    have s0 : (false != true) = true := rfl
    have s1 : (true != false) = true := rfl
    have s2 : (true != true) = false := rfl
    have s3 : (false != false) = false := rfl
    clear eX eY
    by_cases h1 : a < 0 <;> by_cases h2 : b < 0
    all_goals
      simp only [h1, h2, if_true, if_false, decide_true, decide_false] at uX uY HQ HR
      have uX' := uX.symm
      have uY' := uY.symm
      clear uX uY
      first | (have d1 : decide (a < 0) = true := by simp only [h1, decide_true]) | (have d1 : decide (a < 0) = false := by simp only [h1, decide_false])
      first | (have d2 : decide (b < 0) = true := by simp only [h2, decide_true]) | (have d2 : decide (b < 0) = false := by simp only [h2, decide_false])
      clear h1 h2
      go_enter Tryd.func19, Tryd.ntmps19
      go_wp2_with fail
      go_quiet (fail)
      go_wp2
      go_ret2
      refine ⟨ret_two ?_ ?_, _, rfl⟩
      · rw [HQ.out]; try simp [i64w]
      · rw [HR.out]; try simp [i64w]
def BoD (op : By) (a b : Int) (w : World) (e : Ending) (w' : World) : Prop := e = .returned (.tuple #[.int .i64 (bothV op a b).1, .int .i64 (bothV op a b).2]) ∧ ∃ n, w' = w.drewN n
set_option maxHeartbeats 4000000 in
theorem bothD_any (y : ByteArray) (a b : Int) (w : World) (ha0 : -9223372036854775808 ≤ a) (ha1 : a ≤ 9223372036854775807) (hb0 : -9223372036854775808 ≤ b) (hb1 : b ≤ 9223372036854775807) : Calls Tryd.prog 6 #[.string y, .int .i64 a, .int .i64 b] w (BoD y.data.toList a b w) := by
  rw [tl_eq]
  obtain ⟨G, hG⟩ : ∃ G, G = BoD y.toList a b w := ⟨_, rfl⟩
  have HG : Hid (G = BoD y.toList a b w) := hG
  obtain ⟨d1, h1⟩ : ∃ d1, quoD a b = d1 := ⟨_, rfl⟩
  obtain ⟨d2, h2⟩ : ∃ d2, remD a b = d2 := ⟨_, rfl⟩
  have HQ : Hid (∀ w, Calls Tryd.prog 19 #[.int .i64 a, .int .i64 b] w fun e w' => e = .returned (.tuple #[.int .i64 d1, .int .i64 d2]) ∧ ∃ n, w' = w.drewN n) := fun w => by rw [← h1, ← h2]; exact quo_any a b w ha0 ha1 hb0 hb1
  have HV : Hid (¬ b = 0 → d1 = wrap64 (a.tdiv b) ∧ d2 = a.tmod b) := fun h => ⟨by rw [← h1]; exact if_neg h, by rw [← h2]; exact if_neg h⟩
  rw [← hG]
  clear hG h1 h2 ha0 ha1 hb0 hb1
  go_enter Tryd.func6, Tryd.ntmps6
  go_wp2_with (go_at_call 19; refine (HQ.out _).mono ?_; rintro e w' ⟨rfl, n, rfl⟩)
  all_goals
    ((try go_ret2); have hv := HV.out; rw [HG.out]; first | refine ⟨ret_two ?_ ?_, 0, rfl⟩ | refine ⟨ret_two ?_ ?_, _, rfl⟩) <;> unfold bothV holdB <;> simp_all <;> (try split) <;> simp_all <;> (try omega)
end Go.Proofs.YtjmbjpimabnohaaDoor.Mid
