/- Numbers as text: what is written is read as it was. -/
import Derived.Lib.ParseIntB
import Derived.Lib.ItoaNum
import Derived.Lib.ItoaMem
import Derived.Lib.IndexMore
namespace Go.Proofs.YtjjjdplgdlaihaaGreatDoor
open Go

abbrev By := List UInt8

theorem dig_nat (u : Nat) (h : u < 10) : (UInt8.ofNat (48 + u)).toNat = 48 + u := by simp [UInt8.toNat_ofNat']; omega

/-- Digits behind digits. -/
theorem parseM_append (M : Nat) : ∀ (l r : By) (acc u : Nat), Lib.parseUintM M acc l = .ok u → Lib.parseUintM M acc (l ++ r) = Lib.parseUintM M u r
  | [], r, acc, u, h => by simp only [Lib.parseUintM] at h; injection h with h; subst h; rfl
  | c :: l, r, acc, u, h => by
    simp only [Lib.parseUintM, List.cons_append] at h ⊢
    split at h
    · rename_i hc
      rw [if_pos hc]
      split at h
      · cases h
      · rename_i h1
        rw [if_neg h1]
        split at h
        · cases h
        · rename_i h2
          rw [if_neg h2]
          exact parseM_append M l r _ u h
    · cases h

theorem parseM_dec (M : Nat) (hM : M ≤ 18446744073709551615) : ∀ (k u : Nat), u < k → u ≤ M → Lib.parseUintM M 0 (Lib.decDigits u) = .ok u
  | 0, u, h, _ => by omega
  | k + 1, u, h, hu => by
    rw [Lib.decDigits]
    split
    · rename_i h10
      simp only [Lib.parseUintM, dig_nat u h10]
      rw [if_pos (by omega), if_neg (by omega), if_neg (by omega)]
      simp
    · rename_i h10
      rw [parseM_append M _ _ 0 (u / 10) (parseM_dec M hM k (u / 10) (by omega) (by omega))]
      simp only [Lib.parseUintM, dig_nat (u % 10) (Nat.mod_lt _ (by omega))]
      rw [if_pos (by omega), if_neg (by omega), if_neg (by omega)]
      congr 1
      omega

theorem dec_ne (u : Nat) : Lib.decDigits u ≠ [] := by
  rw [Lib.decDigits]
  split <;> simp

/-- Every sign of a numeral is a digit. -/
theorem dec_digit : ∀ (k u : Nat), u < k → ∀ c ∈ Lib.decDigits u, 48 ≤ c.toNat ∧ c.toNat ≤ 57
  | 0, u, h, _, _ => by omega
  | k + 1, u, h, c, hc => by
    rw [Lib.decDigits] at hc
    split at hc
    · rename_i h10
      simp only [List.mem_singleton] at hc
      subst hc
      rw [dig_nat u h10]
      omega
    · simp only [List.mem_append, List.mem_singleton] at hc
      rcases hc with hc | hc
      · exact dec_digit k (u / 10) (by omega) c hc
      · subst hc
        rw [dig_nat (u % 10) (Nat.mod_lt _ (by omega))]
        omega

/-- A number is read as it was written. -/
theorem parse_itoa (n : Int) (h0 : -9223372036854775808 ≤ n) (h1 : n ≤ 9223372036854775807) : Lib.parseIntB 64 (Lib.itoa n) = .ok n := by
  unfold Lib.itoa
  by_cases hn : n < 0
  · rw [if_pos hn]
    have e : Lib.parseUintB 64 (Lib.decDigits n.natAbs) = .ok n.natAbs := by
      unfold Lib.parseUintB
      rw [if_neg (dec_ne _)]
      exact parseM_dec _ (by decide) (n.natAbs + 1) _ (by omega) (by omega)
    simp only [Lib.parseIntB]
    rw [if_pos (by decide), e]
    dsimp only
    have h45 : (45 : UInt8).toNat = 45 := rfl
    simp only [h45]
    rw [if_neg (by simp), if_neg (by simp; omega)]
    simp
    omega
  · rw [if_neg hn]
    have e : Lib.parseUintB 64 (Lib.decDigits n.toNat) = .ok n.toNat := by
      unfold Lib.parseUintB
      rw [if_neg (dec_ne _)]
      exact parseM_dec _ (by decide) (n.toNat + 1) _ (by omega) (by omega)
    cases hd : Lib.decDigits n.toNat with
    | nil => exact absurd hd (dec_ne _)
    | cons c r =>
      have hc := dec_digit (n.toNat + 1) n.toNat (by omega) c (by rw [hd]; simp)
      simp only [Lib.parseIntB]
      rw [if_neg (by omega), ← hd, e]
      dsimp only
      rw [if_neg (by omega), if_neg (by omega), if_neg (by omega)]
      congr 1
      omega

theorem itoa_sign (n : Int) : ∀ c ∈ Lib.itoa n, (48 ≤ c.toNat ∧ c.toNat ≤ 57) ∨ c.toNat = 45 := by
  intro c hc
  unfold Lib.itoa at hc
  split at hc
  · simp only [List.mem_cons] at hc
    rcases hc with rfl | hc
    · exact .inr rfl
    · exact .inl (dec_digit _ _ (Nat.lt_succ_self _) c hc)
  · exact .inl (dec_digit _ _ (Nat.lt_succ_self _) c hc)
theorem itoa_ne (n : Int) : Lib.itoa n ≠ [] := by
  unfold Lib.itoa
  split
  · simp
  · exact dec_ne _

/-- A number of 64 bits, as it must be written. -/
def numV (s : By) : Option Int :=
  match Lib.parseIntB 64 s with
  | .ok v => if Lib.itoa v = s then some v else none
  | _ => none
theorem numV_itoa (n : Int) (h0 : -9223372036854775808 ≤ n) (h1 : n ≤ 9223372036854775807) : numV (Lib.itoa n) = some n := by
  unfold numV; rw [parse_itoa n h0 h1]; simp

/-- A register. -/
def rgsV (s : By) : Option Int :=
  match s with
  | [] => none
  | c :: t => if c = 120 then (match numV t with | some n => if 0 ≤ n ∧ n < 32 then some n else none | none => none) else none
theorem rgsV_itoa (n : Int) (h0 : 0 ≤ n) (h1 : n < 32) : rgsV (120 :: Lib.itoa n) = some n := by
  unfold rgsV
  dsimp only
  rw [if_pos rfl, numV_itoa n (by omega) (by omega)]
  dsimp only
  rw [if_pos ⟨h0, h1⟩]
end Go.Proofs.YtjjjdplgdlaihaaGreatDoor
