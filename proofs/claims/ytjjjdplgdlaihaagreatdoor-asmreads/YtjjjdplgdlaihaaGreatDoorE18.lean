/- plain.Place at an Errno; Bare, is, bare. -/
import Derived.Test.YtjjjdplgdlaihaaGreatDoorE17
namespace Go.Proofs.YtjjjdplgdlaihaaGreatDoor
open Go Go.RowKit Go.Extern.Stop Go.Stop Go.Extern

theorem as_noAt (k : Int) (xT : TypeId) (w : World) : (Instr.typeAssert (.iface 23 (.int .i64 k)) xT 68 true).run Tryz.prog w = .ok (.tuple #[.pointer none, .bool false]) w := by kernel_rfl
theorem as_noUnwrap (v : Value) (xT : TypeId) (w : World) : (Instr.typeAssert (.iface 23 v) xT 123 true).run Tryz.prog w = .ok (.tuple #[.nilIface, .bool false]) w := run_typeAssert_lacksB Tryz.underlying123 (by kernel_rfl) (by kernel_rfl) v xT w
set_option maxRecDepth 100000 in
set_option maxHeartbeats 4000000 in
theorem place_err (k : Int) (w : World) (hg : ErrT w) : Calls Tryz.prog 29 #[.iface 23 (.int .i64 k)] w fun e w' => e = .returned (.tuple #[.int .i64 k, .int .i64 (-1)]) ∧ Below w.heap.size w w' := by
  have HG : Hid (ErrT w) := hg
  clear hg
  have n1 := as_noAt
  have n2 := as_noUnwrap
  go_enter Tryz.func29, Tryz.ntmps29
  go_wp2_with (go_at_call 64; fail)
  refine (tell_err k _ HG.out).mono ?_
  rintro e w1 ⟨rfl, hb⟩
  have HB : Hid (Below w.heap.size w w1) := hb
  clear hb
  go_wp2
  refine wp_loop_rounds 1 ?_
  rw [rounds_succ]
  go_wp2
  go_ret2
  exact ⟨rfl, HB.out⟩
set_option maxHeartbeats 2000000 in
theorem bare_doc (k : Int) (w : World) : Calls Tryz.prog 40 #[.int .i64 k] w fun e w' => e = .returned (.agg #[.int .i64 k, .int .i64 (-1)]) ∧ Below w.heap.size w w' := by
  go_enter Tryz.func40, Tryz.ntmps40
  go_wp2
  refine bodyPost_ret (v := .agg #[.int .i64 k, .int .i64 (-1)]) ?_ rfl ⟨rfl, (Below.refl _ _).alloc (Nat.le_refl _) _⟩
  exact results_cell_row (p := 2) (ty := 25) Tryz.results40 _ _ w.heap.size 25 _ (0, 0) _ rfl (heap_alloc_last w _) Tryz.underlying25 rfl (by kernel_rfl)
set_option maxHeartbeats 2000000 in
theorem is_core (ev : Value) (k q : Int) (w : World) (hP : ∀ w, ErrT w → Calls Tryz.prog 29 #[ev] w fun e w' => e = .returned (.tuple #[.int .i64 q, .int .i64 (-1)]) ∧ Below w.heap.size w w') (hg : ErrT w) :
    Calls Tryz.prog 7 #[ev, .agg #[.int .i64 k, .int .i64 (-1)]] w fun e w' => e = .returned (.bool (q == k)) ∧ Below w.heap.size w w' := by
  have hlt : 4 < w.heap.size := by
    rcases Nat.lt_or_ge 4 w.heap.size with h | h
    · exact h
    · have hg0 : w.cell? ⟨4, 0, none⟩ = some (.iface 204 (.agg #[.pointer (some ⟨13, 29, none⟩)])) := hg
      simp [World.cell?, Array.getElem?_eq_none h] at hg0
  have hg' : Hid (ErrT (w.alloc (.cells #[.int .i64 k, .int .i64 (-1)] 25))) := by
    show _ = _
    rw [World.cell?_alloc_lt _ _ ⟨4, 0, none⟩ hlt]; exact hg
  clear hg
  go_enter Tryz.func7, Tryz.ntmps7
  go_wp2_with (go_at_call 29; fail)
  refine (hP _ hg'.out).mono ?_
  rintro e w1 ⟨rfl, hb⟩
  have G : w1.heap[w.heap.size]? = some (.cells #[.int .i64 k, .int .i64 (-1)] 25) := by
    rw [hb.block _ (by simp)]; exact heap_alloc_last w _
  have c0 : w1.cell? ⟨w.heap.size, 0, none⟩ = some (.int .i64 k) := by rw [cell_of_row _ _ _ _ _ _ G]; rfl
  have c1 : w1.cell? ⟨w.heap.size, 1, none⟩ = some (.int .i64 (-1)) := by rw [cell_of_row _ _ _ _ _ _ G]; rfl
  have HB : Hid (Below w.heap.size w w1) := ((Below.refl _ _).alloc (Nat.le_refl _) _).trans (hb.mono (by simp))
  clear hb G
  cases hqk : q == k with
  | false =>
    go_wp2
    go_ret
    exact ⟨ret_bool hqk.symm, HB.out⟩
  | true =>
    go_wp2
    go_ret
    exact ⟨ret_bool hqk.symm, HB.out⟩
theorem ErrT.below {w w' : World} (h : ErrT w) (hb : Below w.heap.size w w') : ErrT w' := by
  have hlt : 4 < w.heap.size := by
    rcases Nat.lt_or_ge 4 w.heap.size with h' | h'
    · exact h'
    · have hg0 : w.cell? ⟨4, 0, none⟩ = some (.iface 204 (.agg #[.pointer (some ⟨13, 29, none⟩)])) := h
      simp [World.cell?, Array.getElem?_eq_none h'] at hg0
  show w'.cell? ⟨4, 0, none⟩ = _
  rw [hb.cell (p := ⟨4, 0, none⟩) hlt]; exact h
set_option maxHeartbeats 2000000 in
theorem bare_core (ev : Value) (k q : Int) (w : World) (hP : ∀ w, ErrT w → Calls Tryz.prog 29 #[ev] w fun e w' => e = .returned (.tuple #[.int .i64 q, .int .i64 (-1)]) ∧ Below w.heap.size w w') (hg : ErrT w) :
    Calls Tryz.prog 13 #[ev, .int .i64 k] w fun e w' => e = .returned (.bool (q == k)) ∧ Below w.heap.size w w' := by
  have HG : Hid (ErrT w) := hg
  clear hg
  go_enter Tryz.func13, Tryz.ntmps13
  go_wp2_with (go_at_call 40; fail)
  refine (bare_doc k _).mono ?_
  rintro e w1 ⟨rfl, hb⟩
  have HG1 : Hid (ErrT w1) := HG.out.below hb
  have HB : Hid (Below w.heap.size w w1) := hb
  clear hb
  go_wp2_with (go_at_call 7; fail)
  refine (is_core ev k q _ hP HG1.out).mono ?_
  rintro e w2 ⟨rfl, hb⟩
  have HB2 : Hid (Below w.heap.size w w2) := HB.out.trans (hb.mono HB.out.size)
  clear hb
  go_wp2
  go_ret
  exact ⟨rfl, HB2.out⟩
/-- An error that is none is the Errno 0; one that is an Errno is that one; without a place. -/
theorem bare_nil (k : Int) (w : World) (hg : ErrT w) : Calls Tryz.prog 13 #[.nilIface, .int .i64 k] w fun e w' => e = .returned (.bool ((0 : Int) == k)) ∧ Below w.heap.size w w' :=
  bare_core .nilIface k 0 w (fun w _ => (place_nil w).mono fun e w' h => ⟨h.1, by rw [h.2]; exact Below.refl _ _⟩) hg
theorem bare_err (j k : Int) (w : World) (hg : ErrT w) : Calls Tryz.prog 13 #[.iface 23 (.int .i64 j), .int .i64 k] w fun e w' => e = .returned (.bool (j == k)) ∧ Below w.heap.size w w' :=
  bare_core _ k j w (fun w h => place_err j w h) hg
end Go.Proofs.YtjjjdplgdlaihaaGreatDoor
