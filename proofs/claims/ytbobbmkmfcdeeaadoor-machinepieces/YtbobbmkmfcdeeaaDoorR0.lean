/- MachinePieces: the plain mathematics: what is told is never forgotten, register 0 is 0. -/
import Derived.Test.YtbobbmkmfcdeeaaDoorI3
import Derived.Test.YtbobbmkmfcdeeaaDoorI4
namespace Go.Proofs.YtbobbmkmfcdeeaaDoor
open Go Go.RowKit

theorem writeV_out (m : MS) (d v : Int) : (writeV m d v).out = m.out := by unfold writeV; split <;> rfl
theorem callV_out (m : MS) : ∃ t, (callV m).out = m.out ++ t := by
  unfold callV
  split
  · split
    · exact ⟨[], by simp⟩
    · exact ⟨[m.R 10], rfl⟩
  · split
    · split
      · exact ⟨[], by simp⟩
      · exact ⟨[], by simp⟩
    · split
      · split
        · exact ⟨[], by simp⟩
        · exact ⟨[], by simp⟩
      · exact ⟨[], by simp⟩
theorem doV_out (L : Nat) (m : MS) (i : In) : ∃ t, (doV L m i).1.out = m.out ++ t := by
  unfold doV
  split
  · exact ⟨[], by simp [writeV_out]⟩
  · split
    · exact ⟨[], by simp [writeV_out]⟩
    · split
      · refine ⟨[], ?_⟩
        dsimp only
        split
        · simp [writeV_out]
        · simp
      · split
        · exact ⟨[], by simp [writeV_out]⟩
        · split
          · refine ⟨[], ?_⟩
            dsimp only
            split
            · simp
            · simp
          · split
            · exact ⟨[], by simp [writeV_out]⟩
            · split
              · exact ⟨[], by simp [writeV_out]⟩
              · split
                · exact callV_out m
                · exact ⟨[], by simp⟩
theorem stepV_out (L : Nat) (m : MS) : ∃ t, (stepV L m).out = m.out ++ t := by
  unfold stepV
  split
  · split
    · exact ⟨[], by simp⟩
    · rename_i i _
      obtain ⟨t, ht⟩ := doV_out L m i
      split
      · exact ⟨t, ht⟩
      · exact ⟨t, ht⟩
  · exact ⟨[], by simp⟩
theorem runV_out (L k : Nat) (m : MS) : ∃ t, (runV L k m).out = m.out ++ t := by
  induction k generalizing m with
  | zero => exact ⟨[], by simp [runV]⟩
  | succ k ih =>
    obtain ⟨t, ht⟩ := ih (stepV L m)
    obtain ⟨u, hu⟩ := stepV_out L m
    exact ⟨u ++ t, by simp only [runV]; rw [ht, hu, List.append_assoc]⟩

theorem writeV_0 (m : MS) (d v : Int) (hd : 0 ≤ d) (h : m.R 0 = 0) : (writeV m d v).R 0 = 0 := by
  unfold writeV
  split
  · exact h
  · show upd m.R d.toNat v 0 = 0
    unfold upd
    rw [if_neg (by omega)]
    exact h
theorem callV_0 (m : MS) (h : m.R 0 = 0) : (callV m).R 0 = 0 := by
  unfold callV
  split
  · split <;> exact h
  · split
    · split
      · exact h
      · exact h
    · split
      · split <;> exact h
      · exact h
theorem doV_0 (L : Nat) (m : MS) (i : In) (hi : i.rt = true) (h : m.R 0 = 0) : (doV L m i).1.R 0 = 0 := by
  have hd := (In.parts hi).2.2.1.1
  unfold doV
  split
  · exact writeV_0 _ _ _ hd h
  · split
    · exact writeV_0 _ _ _ hd h
    · split
      · dsimp only
        split
        · exact writeV_0 _ _ _ hd h
        · exact h
      · split
        · exact writeV_0 _ _ _ hd h
        · split
          · dsimp only
            split
            · exact h
            · exact h
          · split
            · exact writeV_0 _ _ _ hd h
            · split
              · exact writeV_0 _ _ _ hd h
              · split
                · exact callV_0 m h
                · exact h
theorem stepV_0 (L : Nat) (m : MS) (h : m.R 0 = 0) : (stepV L m).R 0 = 0 := by
  unfold stepV
  split
  · split
    · exact h
    · rename_i i hf
      have := doV_0 L m i (fetV_rt hf) h
      split
      · exact this
      · exact this
  · exact h
theorem runV_0 (L k : Nat) (m : MS) (h : m.R 0 = 0) : (runV L k m).R 0 = 0 := by
  induction k generalizing m with
  | zero => exact h
  | succ k ih => exact ih _ (stepV_0 L m h)
end Go.Proofs.YtbobbmkmfcdeeaaDoor
