/- MachineKeeps, walked: what the walks share. -/
import Derived.Test.YtbobbmkmfcdeeaaDoorI8
namespace Go.Proofs.YtbobbmkmfcdeeaaDoor
open Go Go.RowKit

/-- The machine of two words, and what its calls tell. -/
structure KpC (W : World) (s mb L : Nat) (m : MS) (gv ov : Value) : Prop where
  core : Core W s mb L m gv ov
  L8 : 8 ≤ L
  mod : L % 8 = 0

theorem kp_load {W : World} {s mb L : Nat} {m : MS} {gv ov : Value} (h : KpC W s mb L m gv ov) (j : Nat) (hj : 8 * j < L) (x : Int) (hx : ldV m.M (8 * j) = x) :
    Calls Tryd.prog 13 #[.pointer (some ⟨s, 0, none⟩), .int .i64 (8 * (j : Int))] W fun e w' => e = .returned (.tuple #[.int .i64 x, .nilIface]) ∧ w' = W := by
  have hm := h.mod
  have := load_yes W s mb L m gv ov (8 * (j : Int)) h.core (by simp [hasB]; omega)
  rw [show (8 * (j : Int)).toNat = 8 * j by omega] at this
  rw [← hx]
  exact this

/-- New, of the two words. -/
theorem kp_new (w : World) (L : Nat) (h0 : 8 ≤ L) (h1 : L ≤ 65536) (h2 : L % 8 = 0) (hw1 : 1 < w.heap.size) :
    Calls Tryd.prog 7 #[.slice (some ⟨w.heap.size, 0, none⟩) 2 2, .int .i64 (L : Int), .slice none 0 0] (w.alloc (.cells #[.int .u32 1, .int .u32 2] 54)) fun e w' => ∃ s, e = .returned (.tuple #[.pointer (some ⟨s, 0, none⟩), .nilIface]) ∧ ∃ mb gv, KpC w' s mb L (newV L [1, 2] []) gv (.slice none 0 0) ∧ Below w.heap.size w w' ∧ w.heap.size ≤ mb := by
  refine (new_core (w.alloc (.cells #[.int .u32 1, .int .u32 2] 54)) w.heap.size 0 2 [1, 2] L (.slice none 0 0) [] h0 h1 (by omega) (by simpa using h0) ⟨by simp, fun j hj => ?_, fun j hj => ?_⟩ (.inl ⟨rfl, rfl⟩) (by simp) (by simp; omega)).mono ?_
  · have : j = 0 ∨ j = 1 := by simp at hj; omega
    rcases this with rfl | rfl
    · rw [cell_of_row _ _ _ _ _ _ (heap_alloc_last w _)]; rfl
    · rw [cell_of_row _ _ _ _ _ _ (heap_alloc_last w _)]; rfl
  · have : j = 0 ∨ j = 1 := by simp at hj; omega
    rcases this with rfl | rfl
    · exact ⟨by decide, by decide⟩
    · exact ⟨by decide, by decide⟩
  · rintro e w' ⟨s, rfl, mb, gv, hm, hb, _⟩
    have hbm := hm.Bm
    simp at hbm
    exact ⟨s, rfl, mb, gv, ⟨hm.core, h0, h2⟩, ((Below.refl _ _).alloc (Nat.le_refl _) _).trans (hb.mono (by simp)), by omega⟩

end Go.Proofs.YtbobbmkmfcdeeaaDoor
