/- api.Tell and plain.Place at an *api.At; is, of any error and any fault. -/
import Derived.Test.YtjjjdplgdlaihaaGreatDoorE18
import Derived.Test.YtjjjdplgdlaihaaGreatDoorE19
import Derived.BigRegion
namespace Go.Proofs.YtjjjdplgdlaihaaGreatDoor
open Go Go.RowKit Go.Extern.Stop Go.Stop Go.Extern

set_option maxHeartbeats 2000000 in
theorem tell_at (k ln : Int) (a : Nat) (w : World) (hg : ErrT w) (ha : w.heap[a]? = some (.cells #[.int .i64 k, .int .i64 ln] 69)) : Calls Tryz.prog 64 #[.iface 68 (.pointer (some ⟨a, 0, none⟩))] w fun e w' => e = .returned (.int .i64 k) ∧ Below w.heap.size w w' := by
  have hlt : 4 < w.heap.size := by
    rcases Nat.lt_or_ge 4 w.heap.size with h | h
    · exact h
    · have hg0 : w.cell? ⟨4, 0, none⟩ = some (.iface 204 (.agg #[.pointer (some ⟨13, 29, none⟩)])) := hg
      simp [World.cell?, Array.getElem?_eq_none h] at hg0
  have hg' : Hid (ErrT (w.alloc (.cells #[.int .i64 0] 23))) := by
    show _ = _
    rw [World.cell?_alloc_lt _ _ ⟨4, 0, none⟩ hlt]; exact hg
  have ha' : Hid ((w.alloc (.cells #[.int .i64 0] 23)).heap[a]? = some (.cells #[.int .i64 k, .int .i64 ln] 69)) := by
    show _ = _
    rw [(((Below.refl w.heap.size w).alloc (Nat.le_refl _) _).block a (Array.getElem?_eq_some_iff.1 ha).1)]; exact ha
  clear hg ha
  go_enter Tryz.func64, Tryz.ntmps64
  go_wp2_with (go_at_call 92; fail)
  refine (as_at k ln a ⟨w.heap.size, 0, none⟩ (.int .i64 0) _ hg'.out (by simp) (by simp) ha'.out).mono ?_
  rintro e w1 ⟨rfl, hw1⟩
  have HB : Hid (Below w.heap.size w w1) := by
    show Below _ _ _
    rw [hw1]
    exact Below.setCell (((((((Below.refl _ _).alloc (Nat.le_refl _) _).alloc (by simp) _).alloc (by simp; omega) _).alloc (by simp; omega) _).alloc (by simp; omega) _)) (by simp) _
  have c1 : w1.cell? ⟨w.heap.size, 0, none⟩ = some (.int .i64 k) := by
    have B : Below (w.heap.size + 1) (w.alloc (.cells #[.int .i64 0] 23)) (((((w.alloc (.cells #[.int .i64 0] 23)).alloc (.cells #[.pointer (some ⟨w.heap.size, 0, none⟩)] 160)).alloc (.cells (v90 (w.alloc (.cells #[.int .i64 0] 23)).heap.size) 175)).alloc (.cells (v90 (w.alloc (.cells #[.int .i64 0] 23)).heap.size) 175)).alloc (.cells #[.int .i64 k] 23)) :=
      ((((Below.refl _ _).alloc (by simp) _).alloc (by simp) _).alloc (by simp) _).alloc (by simp) _
    have G := (B.block w.heap.size (by omega)).trans (heap_alloc_last w _)
    rw [hw1, cell_of_row _ _ _ _ _ _ (heap_setCell_same _ _ _ _ _ _ G)]; rfl
  clear hw1
  go_wp2
  go_ret
  exact ⟨rfl, HB.out⟩
theorem as_isAt (p : Addr) (xT : TypeId) (w : World) : (Instr.typeAssert (.iface 68 (.pointer (some p))) xT 68 true).run Tryz.prog w = .ok (.tuple #[.pointer (some p), .bool true]) w := by kernel_rfl
set_option maxRecDepth 100000 in
set_option maxHeartbeats 4000000 in
theorem place_at (k ln : Int) (a : Nat) (w : World) (hg : ErrT w) (ha : w.heap[a]? = some (.cells #[.int .i64 k, .int .i64 ln] 69)) :
    Calls Tryz.prog 29 #[.iface 68 (.pointer (some ⟨a, 0, none⟩))] w fun e w' => e = .returned (.tuple #[.int .i64 k, .int .i64 ln]) ∧ Below w.heap.size w w' := by
  have HG : Hid (ErrT w) := hg
  have HA : Hid (w.heap[a]? = some (.cells #[.int .i64 k, .int .i64 ln] 69)) := ha
  clear hg ha
  have n1 := as_isAt
  go_enter Tryz.func29, Tryz.ntmps29
  go_wp2_with (go_at_call 64; fail)
  refine (tell_at k ln a _ HG.out HA.out).mono ?_
  rintro e w1 ⟨rfl, hb⟩
  have HB : Hid (Below w.heap.size w w1) := hb
  have c1 : w1.cell? ⟨a, 1, none⟩ = some (.int .i64 ln) := by
    have G : w1.heap[a]? = some (.cells #[.int .i64 k, .int .i64 ln] 69) := by rw [hb.block a (Array.getElem?_eq_some_iff.1 HA.out).1]; exact HA.out
    rw [cell_of_row _ _ _ _ _ _ G]; rfl
  clear hb
  go_wp2
  refine wp_loop_rounds 1 ?_
  rw [rounds_succ]
  go_wp2
  go_region
  go_wp2
  go_ret2
  exact ⟨rfl, HB.out.drew⟩

set_option maxHeartbeats 2000000 in
theorem is_gen (ev : Value) (k j q pl : Int) (w : World) (hP : Calls Tryz.prog 29 #[ev] (w.alloc (.cells #[.int .i64 k, .int .i64 j] 25)) fun e w' => e = .returned (.tuple #[.int .i64 q, .int .i64 pl]) ∧ Below (w.heap.size + 1) (w.alloc (.cells #[.int .i64 k, .int .i64 j] 25)) w') :
    Calls Tryz.prog 7 #[ev, .agg #[.int .i64 k, .int .i64 j]] w fun e w' => e = .returned (.bool ((q == k) && (pl == j))) ∧ Below w.heap.size w w' := by
  have HP : Hid (Calls Tryz.prog 29 #[ev] (w.alloc (.cells #[.int .i64 k, .int .i64 j] 25)) fun e w' => e = .returned (.tuple #[.int .i64 q, .int .i64 pl]) ∧ Below (w.heap.size + 1) (w.alloc (.cells #[.int .i64 k, .int .i64 j] 25)) w') := hP
  clear hP
  go_enter Tryz.func7, Tryz.ntmps7
  go_wp2_with (go_at_call 29; fail)
  refine HP.out.mono ?_
  rintro e w1 ⟨rfl, hb⟩
  have G : w1.heap[w.heap.size]? = some (.cells #[.int .i64 k, .int .i64 j] 25) := by
    rw [hb.block _ (by simp)]; exact heap_alloc_last w _
  have c0 : w1.cell? ⟨w.heap.size, 0, none⟩ = some (.int .i64 k) := by rw [cell_of_row _ _ _ _ _ _ G]; rfl
  have c1 : w1.cell? ⟨w.heap.size, 1, none⟩ = some (.int .i64 j) := by rw [cell_of_row _ _ _ _ _ _ G]; rfl
  have HB : Hid (Below w.heap.size w w1) := ((Below.refl _ _).alloc (Nat.le_refl _) _).trans (hb.mono (by simp))
  clear hb G
  cases hqk : q == k with
  | false =>
    go_wp2
    go_ret
    exact ⟨ret_bool (by simp [hqk]), HB.out⟩
  | true =>
    go_wp2
    go_ret
    exact ⟨ret_bool (by simp [hqk]), HB.out⟩
/-- An error that is none. -/
theorem is_nil (k j : Int) (w : World) : Calls Tryz.prog 7 #[.nilIface, .agg #[.int .i64 k, .int .i64 j]] w fun e w' => e = .returned (.bool (((0 : Int) == k) && ((-1 : Int) == j))) ∧ Below w.heap.size w w' :=
  is_gen .nilIface k j 0 (-1) w ((place_nil _).mono fun _ _ h => ⟨h.1, by rw [h.2]; exact Below.refl _ _⟩)
/-- One with a place. -/
theorem is_at (k j c ln : Int) (a : Nat) (w : World) (hg : ErrT w) (ha : w.heap[a]? = some (.cells #[.int .i64 c, .int .i64 ln] 69)) :
    Calls Tryz.prog 7 #[.iface 68 (.pointer (some ⟨a, 0, none⟩)), .agg #[.int .i64 k, .int .i64 j]] w fun e w' => e = .returned (.bool ((c == k) && (ln == j))) ∧ Below w.heap.size w w' := by
  have hb : Below w.heap.size w (w.alloc (.cells #[.int .i64 k, .int .i64 j] 25)) := (Below.refl _ _).alloc (Nat.le_refl _) _
  refine is_gen _ k j c ln w ((place_at c ln a _ (hg.below hb) ?_).mono fun _ _ h => ⟨h.1, by simpa using h.2⟩)
  rw [hb.block a (Array.getElem?_eq_some_iff.1 ha).1]; exact ha
end Go.Proofs.YtjjjdplgdlaihaaGreatDoor
