/- Expressions are read as the model says: the induction. -/
import Derived.Test.YtpakgaegckkmnaaGreatDoorTK
namespace Go.Proofs.YtpakgaegckkmnaaGreatDoor
set_option linter.unusedVariables false
open Go Go.RowKit

structure AllEx (n : Nat) : Prop where
  bin : BinC n
  one : OneC n
  leaf : LeafC n
  held : HeldC n
  args : ArgsC n
theorem At.pos {w : World} {P T o c d : Nat} {l : List Tok} (h : At w P T o c d l) : 1 ≤ l.length := h.ends.pos
theorem idx_of {n : Nat} (h : ∀ m, m ≤ n → BinC m) : IdxC n := fun m hm d w P T o c l hA hl => by
  obtain ⟨k, rfl⟩ : ∃ k, m = k + 1 := ⟨m - 1, by omega⟩
  exact index_walk k (h k (by omega)) d w P T o c l hA (by omega)
theorem expr_of {n : Nat} (h : ∀ m, m ≤ n → BinC m) : ExprC n := fun m hm d w P T o c l hA hl => expr_walk m (h m hm) d w P T o c l hA hl
theorem all_ex : ∀ n m, m ≤ n → AllEx m
  | 0, m, hm => by
    obtain rfl : m = 0 := by omega
    exact ⟨fun lv d w P T o c l h h1 h2 h3 => by have := h.pos; omega, fun d w P T o c l h h3 => by have := h.pos; omega, fun d w P T o c l h h3 => by have := h.pos; omega, fun d w P T o c l h h3 => by have := h.pos; omega, fun d w P T o c l h h3 => by have := h.pos; omega⟩
  | n + 1, m, hm => by
    have ih := all_ex n
    by_cases hlt : m ≤ n
    · exact ih m hlt
    obtain rfl : m = n + 1 := by omega
    have hB : BinC (n + 1) := fun lv d w P T o c l h h1 h2 h3 => by
      by_cases h7 : lv = 7
      · subst h7
        exact bin_last n (ih n (Nat.le_refl _)).one d w P T o c l h (by omega)
      · exact bin_walk n (fun m hm => (ih m hm).bin) lv d w P T o c l h h1 (by omega) h3
    have hBs : ∀ m, m ≤ n + 1 → BinC m := fun m hm => by
      by_cases h : m ≤ n
      · exact (ih m h).bin
      · obtain rfl : m = n + 1 := by omega
        exact hB
    have hH : HeldC (n + 1) := fun d w P T o c l h h3 => held_walk n (ih n (Nat.le_refl _)).bin d w P T o c l h h3
    have hL : LeafC (n + 1) := fun d w P T o c l h h3 => by
      by_cases k2 : (hd l).k = 2
      · exact leaf_num n d w P T o c l h k2
      · by_cases k0 : (hd l).k = 0
        · exact leaf_name n (ih n (Nat.le_refl _)).args d w P T o c l h h3 k0
        · exact leaf_rest n (ih n (Nat.le_refl _)).held d w P T o c l h h3 k2 k0
    have hO : OneC (n + 1) := fun d w P T o c l h h3 => by
      by_cases hk : d ≤ 12 ∨ (hd l).k = 3
      · by_cases h1 : (hd l).t = [45]
        · exact one_minus n (ih n (Nat.le_refl _)).one d w P T o c l h hk h3 ⟨#[45]⟩ h1 rfl
        · by_cases h2 : (hd l).t = [33]
          · exact one_not n (ih n (Nat.le_refl _)).one d w P T o c l h hk h3 ⟨#[33]⟩ h2 rfl
          · exact one_leaf n (ih n (Nat.le_refl _)).leaf (idx_of fun m hm => (ih m hm).bin) d w P T o c l h hk h3 h1 h2
      · exact one_deep n d w P T o c l h (by omega) (by omega)
    exact ⟨hB, hO, hL, hH, fun d w P T o c l h h3 => args_walk (n + 1) (expr_of hBs) d w P T o c l h h3⟩
theorem bin_all (n : Nat) : BinC n := (all_ex n n (Nat.le_refl _)).bin
theorem expr_all (n : Nat) : ExprC n := expr_of fun m _ => bin_all m
theorem idx_all (n : Nat) : IdxC n := idx_of fun m _ => bin_all m
theorem held_all (n : Nat) : HeldC n := (all_ex n n (Nat.le_refl _)).held
theorem args_all (n : Nat) : ArgsC n := (all_ex n n (Nat.le_refl _)).args
end Go.Proofs.YtpakgaegckkmnaaGreatDoor
