/- Statements that are read are written as the model says. -/
import Derived.Test.YtpakgaegckkmnaaGreatDoorV9
namespace Go.Proofs.YtpakgaegckkmnaaGreatDoor
set_option linter.unusedVariables false
set_option linter.unusedSimpArgs false
open Go Go.RowKit

theorem isCe_chain : ∀ xs : List Tr, isCe (chain xs) = decide (xs.length = 0)
  | [] => rfl
  | x :: xs => by simp [isCe, chain]
/-- The row of a chain of statements has as many. -/
theorem row_count {S : Nat → Prop} {w : World} {v : Value} {n : Nat} {cs : List Value} {xs : List Tr} (hr : RowS S w 86 7 v n cs) (hs : StAt S w (chain xs) cs) : n = xs.length := by
  have h1 := (sts_open xs cs hs).1
  have h2 := hr.1.1
  omega
theorem ps_all {c a : Int} {nm : By} {ix v th el : Tr} (c1 : 1 ≤ c) (c8 : c ≤ 8) (IX : WrC ix) (IV : WrC v) (IT : PbC th) (IE : PbC el) {xs : List Tr} (hel : el = chain xs) : PsC (st c a nm ix v th el) := by
  intro S B b s w lf cs he hb hs hl
  obtain ⟨pi, pv, vt, ve, nt, ne, ts, es, rest, ecs, hxi, hxv, hrt, hst, hre, hse, hre2⟩ := st_open hs
  have hrest : rest = [] := by
    have : StAt S w (.slice [] []) rest := hre2
    rw [StAt] at this
    exact this
  subst hrest
  obtain ⟨s5, c5, rfl⟩ := own_slice hrt.1
  obtain ⟨s6, c6, rfl⟩ := own_slice hre.1
  have hcs : cs = #[.int .i64 c, .int .i64 a, .string ⟨nm.toArray⟩, .pointer pi, .pointer pv, .slice s5 nt c5, .slice s6 ne c6] := by
    have h := congrArg List.toArray ecs
    rw [Array.toArray_toList] at h
    exact h
  subst hcs
  have hy : (⟨nm.toArray⟩ : ByteArray).data.toList = nm := by simp
  have hne : ne = xs.length := row_count hre (by rw [← hel]; exact hse)
  rcases (by omega : c = 1 ∨ c = 2 ∨ c = 3 ∨ c = 4 ∨ c = 5 ∨ c = 6 ∨ c = 7 ∨ c = 8) with rfl | rfl | rfl | rfl | rfl | rfl | rfl | rfl
  · have e : smT lf.data.toList (st 1 a nm ix v th el) = [118, 97, 114, 32] ++ nm ++ [32, 61, 32] ++ wrT v ++ [59] := by simp [smT]
    rw [e] at hl ⊢
    exact ps_var (th := th) (el := el) IV S B b s w _ pi pv s5 nt c5 s6 ne c6 lf hy he hb hxi hxv hl
  · have e : smT lf.data.toList (st 2 a nm ix v th el) = nm ++ [32, 61, 32] ++ wrT v ++ [59] := by simp [smT]
    rw [e] at hl ⊢
    exact ps_set (th := th) (el := el) IV S B b s w _ pi pv s5 nt c5 s6 ne c6 lf hy he hb hxi hxv hl
  · have e : smT lf.data.toList (st 3 a nm ix v th el) = nm ++ ([91] ++ wrT ix ++ [93]) ++ [32, 61, 32] ++ wrT v ++ [59] := by simp [smT]
    rw [e] at hl ⊢
    exact ps_put (th := th) (el := el) IV IX S B b s w _ pi pv s5 nt c5 s6 ne c6 lf hy he hb hxi hxv hl
  · by_cases h0 : xs.length = 0
    · have e : smT lf.data.toList (st 4 a nm ix v th el) = ([105, 102] ++ [32, 40]) ++ wrT v ++ [41] ++ blT lf.data.toList th := by simp [smT, hel, isCe_chain, h0]
      rw [e] at hl ⊢
      exact ps_if (el := el) IV IT S B b s w _ pi pv s5 nt c5 s6 ne c6 lf hy he hb hxi hxv hrt hst (by omega) hl
    · have e : smT lf.data.toList (st 4 a nm ix v th el) = ([105, 102] ++ [32, 40]) ++ wrT v ++ [41] ++ blT lf.data.toList th ++ ([32, 101, 108, 115, 101] ++ blT lf.data.toList el) := by
        have : isCe el = false := by rw [hel, isCe_chain]; simp [h0]
        simp [smT, this]
      rw [e] at hl ⊢
      exact ps_else IV IT IE S B b s w _ pi pv s5 nt c5 s6 ne c6 lf hy he hb hxi hxv hrt hst hre hse (by omega) hl
  · have e : smT lf.data.toList (st 5 a nm ix v th el) = ([119, 104, 105, 108, 101] ++ [32, 40]) ++ wrT v ++ [41] ++ blT lf.data.toList th := by simp [smT]
    rw [e] at hl ⊢
    exact ps_while (el := el) IV IT S B b s w _ pi pv s5 nt c5 s6 ne c6 lf hy he hb hxi hxv hrt hst hl
  · have e : smT lf.data.toList (st 6 a nm ix v th el) = [114, 101, 116, 117, 114, 110, 32] ++ wrT v ++ [59] := by simp [smT]
    rw [e] at hl ⊢
    exact ps_return (th := th) (el := el) IV S B b s w _ pi pv s5 nt c5 s6 ne c6 lf hy he hb hxi hxv hl
  · have e : smT lf.data.toList (st 7 a nm ix v th el) = [112, 114, 105, 110, 116, 32] ++ wrT v ++ [59] := by simp [smT]
    rw [e] at hl ⊢
    exact ps_print (th := th) (el := el) IV S B b s w _ pi pv s5 nt c5 s6 ne c6 lf hy he hb hxi hxv hl
  · have e : smT lf.data.toList (st 8 a nm ix v th el) = wrT v ++ [59] := by simp [smT]
    rw [e] at hl ⊢
    exact ps_do (nm := nm) (th := th) (el := el) IV S B b s w _ pi pv s5 nt c5 s6 ne c6 lf hy he hb hxi hxv hl

def chl : Tr → Nat
  | .slice [_] [g] => chl g + 1
  | _ => 0
theorem chl_chain : ∀ xs : List Tr, chl (chain xs) = xs.length
  | [] => rfl
  | x :: xs => by simp [chain, chl, chl_chain xs]
end Go.Proofs.YtpakgaegckkmnaaGreatDoor
