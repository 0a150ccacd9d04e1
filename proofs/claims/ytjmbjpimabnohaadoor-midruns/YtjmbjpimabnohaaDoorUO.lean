/- The document's run of steps: end, walked. -/
import Derived.Test.YtjmbjpimabnohaaDoorUD
import Derived.Deep.DeepCutAuto
namespace Go.Proofs.YtjmbjpimabnohaaDoor.Mid
set_option linter.unusedVariables false
set_option linter.unusedSimpArgs false
open Go Go.RowKit

theorem res32 (tmps : Array Value) (w : World) (g : Nat) (a b c : Value) (hp : tmps.getD 4 undef = .pointer (some ⟨g, 0, none⟩)) (hg : w.heap[g]? = some (.cells #[a, b, c] 39)) :
    (results Tryd.f32 tmps).run Tryd.prog w = .ok (.agg #[a, b, c]) w :=
  results_cell_row (p := 4) (ty := 39) Tryd.results32 _ _ g 39 _ (0, 0) _ hp hg Tryd.underlying39 rfl (by kernel_rfl)
/-- How it ended: way, code, what was told. -/
def EdP (X : Qx) (w : World) (r : Rr) (a b : Int) (e : Ending) (w' : World) : Prop := e = .returned (.agg #[.int .i64 a, .int .i64 b, r.ov]) ∧ w'.ownsRow X.w0.heap.size 2 1 r.ov r.s.out.length (ints r.s.out) ∧ Wz X.P NoE w r w' r
theorem ed_fin {X : Qx} {w w5 : World} {r : Rr} {d : Nat} {way : Int} {x y z : Value} {A : Obj} {a b : Int} (h : Wm X.w0 X.P w r d way) (h5 : ∀ k, k ≠ X.P → w5.heap[k]? = (w.alloc A).heap[k]?) (hs : w5.heap.size = w.heap.size + 1) (h1 : w5.os = w.os) (h2 : w5.tape = w.tape) (h3 : w5.output = w.output) :
    EdP X w r a b (.returned (.agg #[.int .i64 a, .int .i64 b, r.ov])) (((w5.setCell ⟨w.heap.size, 0, none⟩ x).setCell ⟨w.heap.size, 1, none⟩ y).setCell ⟨w.heap.size, 2, none⟩ z) := by
  have hk : ∀ k, k < w.heap.size → k ≠ X.P → (((w5.setCell ⟨w.heap.size, 0, none⟩ x).setCell ⟨w.heap.size, 1, none⟩ y).setCell ⟨w.heap.size, 2, none⟩ z).heap[k]? = w.heap[k]? := fun k hk hP => by
    rw [heap_setCell_other _ _ _ _ (by show k ≠ w.heap.size; omega), heap_setCell_other _ _ _ _ (by show k ≠ w.heap.size; omega), heap_setCell_other _ _ _ _ (by show k ≠ w.heap.size; omega), h5 k hP]
    exact (al_bel w A).block k hk
  refine ⟨rfl, own_at h.out (fun k hk' => ?_), ⟨h1, h2, h3, by simp [hs], fun k hk' hx _ => hk k hk' (fun e => hx (.inl e)), List.prefix_rfl, fun b q1 q2 => absurd q1 q2⟩⟩
  obtain ⟨cs, hc⟩ := own_ty h.out hk'
  exact hk k (own_lt h.out k hk') (h.neP hc (by decide))
set_option maxRecDepth 100000 in
set_option maxHeartbeats 2000000 in
theorem end_any (X : Qx) (w : World) (r : Rr) (d : Nat) (way n : Int) (h : Wm X.w0 X.P w r d way) : Calls Tryd.prog 32 #[ptr X.P, .int .i64 n] w (EdP X w r (if way = 0 then 1 else way) (if way = 0 then n else 0)) := by
  obtain ⟨q, c, hov⟩ := own_slice h.out
  obtain ⟨m, hm⟩ : ∃ m, m = r.s.out.length := ⟨_, rfl⟩
  rw [← hm] at hov
  obtain ⟨A, hA⟩ : ∃ A : Obj, A = .cells #[.int .i64 0, .int .i64 0, .slice none 0 0] 39 := ⟨_, rfl⟩
  have hpb : (w.alloc A).heap[X.P]? = some (.cells (wdC r d way) 87) := by rw [(al_bel w A).block X.P h.ltP]; exact h.pb
  have c4 : (w.alloc A).cell? ⟨X.P, 4, none⟩ = some (.int .i64 way) := cell_at (i := 4) hpb rfl
  have c5 : (w.alloc A).cell? ⟨X.P, 5, none⟩ = some (.int .i64 0) := cell_at (i := 5) hpb rfl
  have c6 : (w.alloc A).cell? ⟨X.P, 6, none⟩ = some r.ov := cell_at (i := 6) hpb rfl
  have f4 := row_free hpb 4
  have f5 := row_free hpb 5
  rw [hov] at c6
  have hbx : (w.alloc A).heap[w.heap.size]? = some (.cells #[.int .i64 0, .int .i64 0, .slice none 0 0] 39) := by rw [← hA]; exact heap_alloc_last _ _
  have hPn : w.heap.size ≠ X.P := fun e => by have := h.ltP; omega
  have hpb2 : (((w.alloc A).setCell ⟨X.P, 4, none⟩ (.int .i64 1)).setCell ⟨X.P, 5, none⟩ (.int .i64 n)).heap[X.P]? = some (.cells #[r.av, r.iv, .int .i64 r.s.fuel, .int .i64 (d : Int), .int .i64 1, .int .i64 n, r.ov] 87) := heap_setCell_same _ _ _ _ _ _ (heap_setCell_same _ _ _ _ _ _ hpb)
  have s4 : (((w.alloc A).setCell ⟨X.P, 4, none⟩ (.int .i64 1)).setCell ⟨X.P, 5, none⟩ (.int .i64 n)).cell? ⟨X.P, 4, none⟩ = some (.int .i64 1) := cell_at (i := 4) hpb2 rfl
  have s5 : (((w.alloc A).setCell ⟨X.P, 4, none⟩ (.int .i64 1)).setCell ⟨X.P, 5, none⟩ (.int .i64 n)).cell? ⟨X.P, 5, none⟩ = some (.int .i64 n) := cell_at (i := 5) hpb2 rfl
  have s6 : (((w.alloc A).setCell ⟨X.P, 4, none⟩ (.int .i64 1)).setCell ⟨X.P, 5, none⟩ (.int .i64 n)).cell? ⟨X.P, 6, none⟩ = some r.ov := cell_at (i := 6) hpb2 rfl
  rw [hov] at s6
  have hpb1 : ((w.alloc A).setCell ⟨X.P, 4, none⟩ (.int .i64 1)).heap[X.P]? = some (.cells #[r.av, r.iv, .int .i64 r.s.fuel, .int .i64 (d : Int), .int .i64 1, .int .i64 0, r.ov] 87) := heap_setCell_same _ _ _ _ _ _ hpb
  have m5 := cell_at (i := 5) hpb1 rfl
  have mf5 := row_free hpb1 5
  have hbx2 : (((w.alloc A).setCell ⟨X.P, 4, none⟩ (.int .i64 1)).setCell ⟨X.P, 5, none⟩ (.int .i64 n)).heap[w.heap.size]? = some (.cells #[.int .i64 0, .int .i64 0, .slice none 0 0] 39) := by rw [heap_setCell_other _ _ _ _ hPn, heap_setCell_other _ _ _ _ hPn]; exact hbx
  have t0 := cell_at (i := 0) hbx2 rfl
  have t1 := cell_at (i := 1) hbx2 rfl
  have t2 := cell_at (i := 2) hbx2 rfl
  have u0 := row_free hbx2 0
  have u1 := row_free hbx2 1
  have u2 := row_free hbx2 2
  have HH : Hid (Wm X.w0 X.P w r d way) := h
  have HV : Hid (r.ov = .slice q m c) := hov
  have HB : Hid ((w.alloc A).heap[w.heap.size]? = some (.cells #[.int .i64 0, .int .i64 0, .slice none 0 0] 39)) := hbx
  have HA : Hid (A = .cells #[.int .i64 0, .int .i64 0, .slice none 0 0] 39) := hA
  rw [hA] at m5 mf5 c4 c5 c6 f4 f5 s4 s5 s6 t0 t1 t2 u0 u1 u2
  have HPn : Hid (w.heap.size ≠ X.P) := hPn
  clear h hov hm hpb hpb1 hbx hA hPn hpb2 hbx2
  by_cases h0 : way = 0
  · subst h0
    rw [if_pos rfl, if_pos rfl]
    generalize hG : EdP X w r 1 n = G
    have HG : Hid (EdP X w r 1 n = G) := hG
    clear hG
    go_enter Tryd.func32, Tryd.ntmps32
    go_upto_region 3 with fail
    generalize hW : World.setCell (World.setCell (w.alloc (.cells #[.int .i64 0, .int .i64 0, .slice none 0 0] 39)) ⟨X.P, 4, none⟩ (.int .i64 1)) ⟨X.P, 5, none⟩ (.int .i64 n) = W at s4 s5 s6 t0 t1 t2 u0 u1 u2 ⊢
    have HW : Hid (_ = W) := hW
    clear hW c4 c5 c6 f4 f5 m5 mf5
    go_wp2
    refine bodyPost_ret (res32 _ _ w.heap.size _ _ _ rfl (set3 (x := .int .i64 0) (y := .int .i64 0) (z := .slice none 0 0) ?_)) rfl ?_
    · rw [← HW.out, heap_setCell_other _ _ _ _ HPn.out, heap_setCell_other _ _ _ _ HPn.out, ← HA.out]
      exact heap_alloc_last _ _
    · rw [← HG.out, ← HV.out]
      refine ed_fin (A := A) HH.out (fun k hk => by rw [← HW.out, heap_setCell_other _ _ _ _ hk, heap_setCell_other _ _ _ _ hk, ← HA.out]) (by rw [← HW.out]; simp) ?_ ?_ ?_ <;> (rw [← HW.out]; rfl)
  · clear m5 mf5 s4 s5 s6 t0 t1 t2 u0 u1 u2
    rw [if_neg h0, if_neg h0]
    generalize hG : EdP X w r way 0 = G
    have HG : Hid (EdP X w r way 0 = G) := hG
    clear hG
    go_enter Tryd.func32, Tryd.ntmps32
    go_wp2
    refine bodyPost_ret (res32 _ _ w.heap.size _ _ _ rfl (heap_alloc_last _ _)) rfl ?_
    rw [← HG.out, ← HV.out]
    exact ⟨rfl, own_at HH.out.out (fun k hk => (al_bel w _).block k (own_lt HH.out.out k hk)), Wz.below (al_bel _ _)⟩
end Go.Proofs.YtjmbjpimabnohaaDoor.Mid
