/- Package mid, walked: is, has (step's closures), mark, fits. -/
import Derived.Test.YtjmbjpimabnohaaDoorQD
namespace Go.Proofs.YtjmbjpimabnohaaDoor.Mid
set_option linter.unusedVariables false
set_option linter.unusedSimpArgs false
open Go Go.RowKit

/-- Is a place there, of a type? -/
def isB (F : Mf) (p k : Int) : Bool := decide (0 ≤ p ∧ p < F.types.length) && (F.types.getD p.toNat 0 == k)
def hasB (F : Mf) (p k : Int) : Bool := k == 0 || isB F p k
/-- What looks and does not draw leaves. -/
def LqP (b : Bool) (w : World) (e : Ending) (w' : World) : Prop := e = .returned (.bool b) ∧ w' = w
/-- A function that is held in a box. -/
def BoxF (w : World) (bf : Nat) (F : Mf) : Prop := ∃ fb fo, w.cell? ⟨bf, 0, none⟩ = some (.pointer (some ⟨fb, fo, none⟩)) ∧ FnAt w fb fo F
theorem is_1 {F : Mf} {p k : Int} (h : p < 0) : isB F p k = false := by unfold isB; rw [decide_eq_false (by omega)]; rfl
theorem is_2 {F : Mf} {p k : Int} (h : ¬ p < F.types.length) : isB F p k = false := by unfold isB; rw [decide_eq_false (by omega)]; rfl
theorem is_3 {F : Mf} {p : Nat} {x k : Int} (h : F.types[p]? = some x) : isB F (p : Int) k = (x == k) := by
  have := (List.getElem?_eq_some_iff.1 h).1
  unfold isB
  rw [decide_eq_true (by omega), Bool.true_and, Int.toNat_natCast, List.getD_eq_getElem?_getD, h]
  rfl
set_option maxRecDepth 100000 in
set_option maxHeartbeats 1000000 in
theorem is_any (w : World) (bf : Nat) (F : Mf) (p k : Int) (h : BoxF w bf F) : Calls Tryd.prog 52 #[.int .i64 p, .int .i64 k, ptr bf] w (LqP (isB F p k) w) := by
  obtain ⟨fb, fo, k0, hf⟩ := h
  obtain ⟨v, k2, q, c, rfl, hl6, hI, hcells⟩ := hf.c2
  obtain ⟨n, hn⟩ : ∃ n, F.types.length = n := ⟨_, rfl⟩
  rw [hn] at k2 hl6
  have HN : Hid (F.types.length = n) := hn
  generalize hG : LqP (isB F p k) w = G
  have HG : Hid (LqP (isB F p k) w = G) := hG
  clear hG hf hI hn
  by_cases h1 : p < 0
  · have HE : Hid (G (.returned (.bool false)) w) := by show G _ _; rw [← HG.out, is_1 h1]; exact ⟨rfl, rfl⟩
    have t1 : decide (0 ≤ p) = false := decide_eq_false (by omega)
    clear h1 hcells
    go_enter Tryd.func52, Tryd.ntmps52
    go_wp2
    exact HE.out
  · obtain ⟨i, rfl⟩ : ∃ i : Nat, p = i := ⟨p.toNat, by omega⟩
    by_cases h2 : i < n
    · obtain ⟨x, hx⟩ : ∃ x, F.types[i]? = some x := ⟨F.types[i]'(by rw [HN.out]; exact h2), List.getElem?_eq_getElem _⟩
      obtain ⟨g, o, rfl, hcs⟩ : ∃ g o, q = some ⟨g, o, none⟩ ∧ ∀ j x, F.types[j]? = some x → w.cell? ⟨g, o + j, none⟩ = some (.int .i64 x) := by
        rcases hcells with h | h
        · rw [h] at hx; simp at hx
        · exact h
      have k3 := hcs i x hx
      have HE : Hid (G (.returned (.bool (x == k))) w) := by show G _ _; rw [← HG.out, is_3 hx]; exact ⟨rfl, rfl⟩
      have hl9 : (i : Int) < (n : Int) := by omega
      clear hcs hx hcells
      go_enter Tryd.func52, Tryd.ntmps52
      go_wp2
      exact HE.out
    · have HE : Hid (G (.returned (.bool false)) w) := by show G _ _; rw [← HG.out, is_2 (by rw [HN.out]; omega)]; exact ⟨rfl, rfl⟩
      have t1 : decide ((i : Int) < (n : Int)) = false := decide_eq_false (by omega)
      have t2 : decide (i < n) = false := decide_eq_false (by omega)
      clear h1 hcells
      go_enter Tryd.func52, Tryd.ntmps52
      go_wp2
      exact HE.out
abbrev isV (bf : Nat) : Value := .func (.func 52) #[] #[ptr bf]
set_option maxRecDepth 100000 in
set_option maxHeartbeats 1000000 in
theorem has_any (w : World) (bf bi : Nat) (F : Mf) (p k : Int) (h : BoxF w bf F) (hi : w.cell? ⟨bi, 0, none⟩ = some (isV bf)) : Calls Tryd.prog 53 #[.int .i64 p, .int .i64 k, ptr bi] w (LqP (hasB F p k) w) := by
  generalize hG : LqP (hasB F p k) w = G
  have HG : Hid (LqP (hasB F p k) w = G) := hG
  have HC : Hid (∀ W, W = w → Calls Tryd.prog 52 #[.int .i64 p, .int .i64 k, ptr bf] W (LqP (isB F p k) W)) := fun W e => by subst e; exact is_any W bf F p k h
  clear h hG
  by_cases h0 : k = 0
  · subst h0
    have HE : Hid (G (.returned (.bool true)) w) := by show G _ _; rw [← HG.out]; exact ⟨rfl, rfl⟩
    go_enter Tryd.func53, Tryd.ntmps53
    go_wp2
    exact HE.out
  · have t0 : (k == 0) = false := by simpa using h0
    have HE : Hid (G (.returned (.bool (isB F p k))) w) := by show G _ _; rw [← HG.out]; unfold hasB; rw [t0]; exact ⟨rfl, rfl⟩
    clear h0
    go_enter Tryd.func53, Tryd.ntmps53
    go_wp2_with (go_at_call 52; refine (HC.out _ rfl).mono ?_; rintro e w' ⟨rfl, rfl⟩)
    exact HE.out
end Go.Proofs.YtjmbjpimabnohaaDoor.Mid
