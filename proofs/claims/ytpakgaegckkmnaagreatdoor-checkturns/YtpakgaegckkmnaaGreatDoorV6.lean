/- write of any tree that is read; printHead. -/
import Derived.Test.YtpakgaegckkmnaaGreatDoorV5
namespace Go.Proofs.YtpakgaegckkmnaaGreatDoor
set_option linter.unusedVariables false
set_option linter.unusedSimpArgs false
open Go Go.RowKit

/-- A tree as it is read. -/
def GoodE : Tr → Prop
  | .agg [.lit (.int .i64 c), .lit (.int .i64 _), .lit (.int .i64 n), .lit (.string _), .lit (.string _), l, r, g] =>
    1 ≤ c ∧ c ≤ 9 ∧ -9223372036854775808 ≤ n ∧ n ≤ 9223372036854775807 ∧ (l = .nil ∨ IsNd l) ∧ (r = .nil ∨ IsNd r) ∧ GoodE l ∧ GoodE r ∧ GoodE g ∧ ∃ xs, g = chain xs ∧ xs.length ≤ 1000000
  | .slice [x] [g] => IsNd x ∧ GoodE x ∧ GoodE g
  | .slice [] [] => True
  | .nil => True
  | _ => False
theorem wr_all (t : Tr) (h : GoodE t) : (t = .nil ∨ IsNd t → WrC t) ∧ ∀ xs, t = chain xs → ∀ x ∈ xs, WrC x := by
  unfold GoodE at h
  split at h
  · rename_i c a n nm op l r g
    obtain ⟨c1, c9, n0, n1, tl, tr, gl, gr, gg, xs, hg, hlen⟩ := h
    have IL := (wr_all l gl).1 tl
    have IR := (wr_all r gr).1 tr
    have IG := (wr_all g gg).2 xs hg
    refine ⟨fun _ => ?_, fun xs e => ?_⟩
    · rcases (by omega : c = 1 ∨ c = 2 ∨ c = 3 ∨ c = 4 ∨ c = 5 ∨ c = 6 ∨ c = 7 ∨ c = 8 ∨ c = 9) with rfl | rfl | rfl | rfl | rfl | rfl | rfl | rfl | rfl
      · exact wr_num n0 n1
      · exact wr_name
      · exact wr_bin tl IL tr IR
      · exact wr_un tl IL
      · exact wr_call hg IG hlen
      · exact wr_new tl IL
      · exact wr_len tl IL
      · exact wr_item tl IL IR
      · exact wr_input
    · cases xs <;> simp [chain] at e
  · obtain ⟨hn, hx, hg⟩ := h
    rename_i x g
    have IX := (wr_all x hx).1 (.inr hn)
    have IG := (wr_all g hg).2
    refine ⟨fun h => ?_, fun xs e => ?_⟩
    · rcases h with h | ⟨_, _, _, _, _, _, _, _, h⟩ <;> cases h
    · cases xs with
      | nil => simp [chain] at e
      | cons y xs =>
        simp only [chain] at e
        injection e with e1 e2
        injection e1 with e1 _
        injection e2 with e2 _
        subst e1
        intro z hz
        rcases List.mem_cons.1 hz with rfl | hz
        · exact IX
        · exact IG xs e2 z hz
  · refine ⟨fun h => ?_, fun xs e => ?_⟩
    · rcases h with h | ⟨_, _, _, _, _, _, _, _, h⟩ <;> cases h
    · cases xs with
      | nil => intro x hx; simp at hx
      | cons y xs => simp [chain] at e
  · refine ⟨fun _ => wr_nil, fun xs e => ?_⟩
    cases xs <;> simp [chain] at e
  · exact h.elim
end Go.Proofs.YtpakgaegckkmnaaGreatDoor
