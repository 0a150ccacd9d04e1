/- WordBack, walked. -/
import Derived.Test.YtbnbkbccgojchaaDoorD1
namespace Go.Proofs.YtbnbkbccgojchaaDoor
open Go Go.RowKit Go.Sort

/-- The ten cells of two instructions that were laid one behind the other, behind a call that turned nothing old. -/
structure Two (w : World) (o d a b n o' d' a' b' n' : Int) (w1 : World) : Prop where
  z : w.heap.size + 1 < w1.heap.size
  bel : Below w.heap.size w w1
  x0 : w1.cell? ⟨w.heap.size, 0, none⟩ = some (.int .i64 o)
  x1 : w1.cell? ⟨w.heap.size, 1, none⟩ = some (.int .i64 d)
  x2 : w1.cell? ⟨w.heap.size, 2, none⟩ = some (.int .i64 a)
  x3 : w1.cell? ⟨w.heap.size, 3, none⟩ = some (.int .i64 b)
  x4 : w1.cell? ⟨w.heap.size, 4, none⟩ = some (.int .i64 n)
  y0 : w1.cell? ⟨w.heap.size + 1, 0, none⟩ = some (.int .i64 o')
  y1 : w1.cell? ⟨w.heap.size + 1, 1, none⟩ = some (.int .i64 d')
  y2 : w1.cell? ⟨w.heap.size + 1, 2, none⟩ = some (.int .i64 a')
  y3 : w1.cell? ⟨w.heap.size + 1, 3, none⟩ = some (.int .i64 b')
  y4 : w1.cell? ⟨w.heap.size + 1, 4, none⟩ = some (.int .i64 n')

theorem Two.begin (w : World) (o d a b n o' d' a' b' n' : Int) :
    Two w o d a b n o' d' a' b' n' ((w.alloc (.cells #[.int .i64 o, .int .i64 d, .int .i64 a, .int .i64 b, .int .i64 n] 23)).alloc (.cells #[.int .i64 o', .int .i64 d', .int .i64 a', .int .i64 b', .int .i64 n'] 23)) := by
  have h0 := heap_alloc2_old w (.cells #[.int .i64 o, .int .i64 d, .int .i64 a, .int .i64 b, .int .i64 n] 23) (.cells #[.int .i64 o', .int .i64 d', .int .i64 a', .int .i64 b', .int .i64 n'] 23)
  have h1 := heap_alloc2_new w (.cells #[.int .i64 o, .int .i64 d, .int .i64 a, .int .i64 b, .int .i64 n] 23) (.cells #[.int .i64 o', .int .i64 d', .int .i64 a', .int .i64 b', .int .i64 n'] 23)
  refine ⟨by simp, ((Below.refl _ _).alloc (Nat.le_refl _) _).alloc (by simp) _, ?_, ?_, ?_, ?_, ?_, ?_, ?_, ?_, ?_, ?_⟩ <;> first | (rw [cell_of_row _ _ _ _ _ _ h0]; rfl) | (rw [cell_of_row _ _ _ _ _ _ h1]; rfl)

theorem Two.below {w : World} {o d a b n o' d' a' b' n' : Int} {w1 w2 : World} (h : Two w o d a b n o' d' a' b' n' w1) (hb : Below w1.heap.size w1 w2) : Two w o d a b n o' d' a' b' n' w2 := by
  have c0 : ∀ j, w2.cell? ⟨w.heap.size, j, none⟩ = w1.cell? ⟨w.heap.size, j, none⟩ := fun j => hb.cell (p := ⟨w.heap.size, j, none⟩) (by have := h.z; show w.heap.size < _; omega)
  have c1 : ∀ j, w2.cell? ⟨w.heap.size + 1, j, none⟩ = w1.cell? ⟨w.heap.size + 1, j, none⟩ := fun j => hb.cell (p := ⟨w.heap.size + 1, j, none⟩) h.z
  exact ⟨Nat.lt_of_lt_of_le h.z hb.size, h.bel.trans (hb.mono h.bel.size), (c0 _).trans h.x0, (c0 _).trans h.x1, (c0 _).trans h.x2, (c0 _).trans h.x3, (c0 _).trans h.x4,
    (c1 _).trans h.y0, (c1 _).trans h.y1, (c1 _).trans h.y2, (c1 _).trans h.y3, (c1 _).trans h.y4⟩
theorem Two.alloc {w : World} {o d a b n o' d' a' b' n' : Int} {w1 : World} (h : Two w o d a b n o' d' a' b' n' w1) (ob : Obj) : Two w o d a b n o' d' a' b' n' (w1.alloc ob) := h.below ((Below.refl _ _).alloc (Nat.le_refl _) _)

end Go.Proofs.YtbnbkbccgojchaaDoor
