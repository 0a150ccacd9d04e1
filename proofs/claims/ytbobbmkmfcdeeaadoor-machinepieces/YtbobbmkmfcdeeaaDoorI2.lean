/- Package machine's End, walked. -/
import Derived.Test.YtbobbmkmfcdeeaaDoorI1
namespace Go.Proofs.YtbobbmkmfcdeeaaDoor
open Go Go.RowKit

theorem own_form {w : World} {B n : Nat} {v : Value} {xs : List Value} (h : w.ownsRow B 2 1 v n xs) : ∃ q c, v = .slice q n c := by
  rcases h.2 with ⟨h1, h2⟩ | ⟨g, cap, cur, hv, _⟩
  · exact ⟨none, 0, by rw [h1, h2]⟩
  · exact ⟨_, _, hv⟩

/-- What it owns from B on it owns from a smaller number on. -/
theorem own_mono {w : World} {B B' n : Nat} {v : Value} {xs : List Value} (h : w.ownsRow B 2 1 v n xs) (hB : B' ≤ B) : w.ownsRow B' 2 1 v n xs := by
  refine ⟨h.1, ?_⟩
  rcases h.2 with h2 | ⟨g, cap, cur, hv, hg, r⟩
  · exact .inl h2
  · exact .inr ⟨g, cap, cur, hv, Nat.le_trans hB hg, r⟩

theorem res24 (tmps : Array Value) (w : World) (g : Nat) (a b c : Value) (hp : tmps.getD 2 undef = .pointer (some ⟨g, 0, none⟩)) (hg : w.heap[g]? = some (.cells #[a, b, c] 44)) :
    (results Tryd.f24 tmps).run Tryd.prog w = .ok (.agg #[a, b, c]) w :=
  results_cell_row (p := 2) (ty := 44) Tryd.results24 _ _ g 44 _ (0, 0) _ hp hg Tryd.underlying44 rfl (by kernel_rfl)

abbrev endW (w : World) (way code : Int) (ov : Value) : World := (w.alloc (.cells #[.int .i64 0, .int .i64 0, .slice none 0 0] 44)).alloc (.cells #[.int .i64 way, .int .i64 code, ov] 44)

set_option maxRecDepth 100000 in
set_option maxHeartbeats 1000000 in
theorem end_any (w : World) (B s mb L : Nat) (m : MS) (gv ov : Value) (h : Mac w B s mb L m gv ov) :
    Calls Tryd.prog 24 #[.pointer (some ⟨s, 0, none⟩)] w fun e w' => ∃ v', e = .returned (.agg #[.int .i64 m.way, .int .i64 m.code, v']) ∧ w'.ownsRow w.heap.size 2 1 v' m.out.length (outL m.out) ∧ Below w.heap.size w w' := by
  obtain ⟨q, c, hov⟩ := h.ovform
  have c35 := h.core.way
  have hs := h.core.s0
  have c36 := h.core.cod
  have c37 := h.core.out
  have HCL : Hid (∀ w', Below w.heap.size w w' → Calls Tryd.prog 25 #[ov] w' fun e w'' => ∃ v', e = .returned v' ∧ w''.ownsRow w'.heap.size 2 1 v' m.out.length (outL m.out) ∧ Below w'.heap.size w' w'') := fun w' hb => clone_any w' ov m.out (Src.of_own (h.grown hb).own) (by have := h.o2; omega)
  have HBE : Hid (Below w.heap.size w (endW w m.way m.code ov)) := ((Below.refl _ _).alloc (Nat.le_refl _) _).alloc (by simp) _
  rw [hov] at c37
  rw [hov] at HCL HBE
  generalize m.way = x at *
  generalize m.code = y at *
  generalize m.out.length = n at *
  clear h hov
  go_enter Tryd.func24, Tryd.ntmps24
  go_wp2_with (go_at_call 25; fail)
  refine (HCL.out _ HBE.out).mono ?_
  rintro e w3 ⟨v', rfl, hown, hb⟩
  obtain ⟨q', c', hv'⟩ := own_form hown
  have hsz := hb.size
  simp at hsz
  have R0 : w3.heap[w.heap.size]? = some (.cells #[.int .i64 0, .int .i64 0, .slice none 0 0] 44) := by
    rw [hb.block _ (by simp; omega)]; exact heap_alloc2_old _ _ _
  have R1 : w3.heap[w.heap.size + 1]? = some (.cells #[.int .i64 x, .int .i64 y, .slice q n c] 44) := by
    rw [hb.block _ (by simp)]; exact heap_alloc2_new _ _ _
  have HOW : Hid (w3.ownsRow (w.heap.size + 2) 2 1 v' n (outL m.out)) := own_mono hown (by simp)
  have HB3 : Hid (Below w.heap.size w w3) := HBE.out.trans (hb.mono (by simp; omega))
  have y0 : w3.cell? ⟨w.heap.size + 1, 0, none⟩ = some (.int .i64 x) := by rw [cell_of_row _ _ _ _ _ _ R1]; rfl
  have y1 : w3.cell? ⟨w.heap.size + 1, 1, none⟩ = some (.int .i64 y) := by rw [cell_of_row _ _ _ _ _ _ R1]; rfl
  have y2 : w3.cell? ⟨w.heap.size + 1, 2, none⟩ = some (.slice q n c) := by rw [cell_of_row _ _ _ _ _ _ R1]; rfl
  have z0 : w3.cell? ⟨w.heap.size, 0, none⟩ = some (.int .i64 0) := by rw [cell_of_row _ _ _ _ _ _ R0]; rfl
  have z1 : w3.cell? ⟨w.heap.size, 1, none⟩ = some (.int .i64 0) := by rw [cell_of_row _ _ _ _ _ _ R0]; rfl
  have z2 : w3.cell? ⟨w.heap.size, 2, none⟩ = some (.slice none 0 0) := by rw [cell_of_row _ _ _ _ _ _ R0]; rfl
  have zf : ∀ i, w3.frozen? ⟨w.heap.size, i, none⟩ = false := fun i => frozen_row R0 i
  have yf : ∀ i, w3.frozen? ⟨w.heap.size + 1, i, none⟩ = false := fun i => frozen_row R1 i
  have HR0 : Hid (w3.heap[w.heap.size]? = some (.cells #[.int .i64 0, .int .i64 0, .slice none 0 0] 44)) := R0
  subst hv'
  clear hb hown R0 R1 hsz
  go_wp2_with fail
  generalize hg0 : w.heap.size = g0 at *
  have HG0 : Hid (w.heap.size = g0) := hg0
  clear hg0
  have e0 : (w3.setCell ⟨g0 + 1, 2, none⟩ (.slice q' n c')).heap[g0]? = some (.cells #[.int .i64 0, .int .i64 0, .slice none 0 0] 44) := by
    rw [Below.heap_setCell _ _ _ _ (by simp)]; exact HR0.out
  refine bodyPost_ret (res24 _ _ g0 (.int .i64 x) (.int .i64 y) (.slice q' n c') rfl ?_) rfl ⟨.slice q' n c', rfl, ?_, ?_⟩
  · exact heap_setCell_same _ g0 2 _ 44 (.slice q' n c') (heap_setCell_same _ g0 1 _ 44 (.int .i64 y) (heap_setCell_same _ g0 0 _ 44 (.int .i64 x) e0))
  · exact own_mono (ownsRow_setCell_below (ownsRow_setCell_below (ownsRow_setCell_below (ownsRow_setCell_below HOW.out (a := ⟨g0 + 1, 2, none⟩) (by simp) _) (a := ⟨g0, 0, none⟩) (by simp) _) (a := ⟨g0, 1, none⟩) (by simp) _) (a := ⟨g0, 2, none⟩) (by simp) _) (by omega)
  · exact (((HB3.out.setCell (p := ⟨g0 + 1, 2, none⟩) (by simp) _).setCell (p := ⟨g0, 0, none⟩) (Nat.le_refl _) _).setCell (p := ⟨g0, 1, none⟩) (Nat.le_refl _) _).setCell (p := ⟨g0, 2, none⟩) (Nat.le_refl _) _
end Go.Proofs.YtbobbmkmfcdeeaaDoor
