/- WordForms walked. -/
import Derived.Test.YtchankbdfkgdiaaDoorE18
namespace Go.Proofs.YtchankbdfkgdiaaDoor
open Go Go.RowKit Go.Sort

set_option maxRecDepth 100000 in
set_option maxHeartbeats 4000000 in
theorem forms_core (o d a b n W V ek o' d' a' b' n' ek' : Int) (er er' : Value) (bR : Bool) (w : World) (ht : Tabs T w) (hg : ErrT w)
    (h6 : ∀ w, Calls Tryd.prog 6 #[instV o d a b n] w fun e w' => e = .returned (.tuple #[.int .u32 V, .int .i64 ek]) ∧ Below w.heap.size w w')
    (h7 : ∀ w, Tabs T w → Calls Tryd.prog 7 #[instV o d a b n] w fun e w' => e = .returned (.tuple #[.int .u32 V, er]) ∧ Below w.heap.size w w')
    (h8 : ∀ w, ErrT w → Calls Tryd.prog 8 #[er, .int .i64 ek] w fun e w' => e = .returned (.bool true) ∧ Below w.heap.size w w')
    (h9 : ∀ w, Tabs T w → Calls Tryd.prog 9 #[instV o d a b n] w fun e w' => e = .returned (.bool bR) ∧ Below w.heap.size w w')
    (h10 : ∀ w, Calls Tryd.prog 10 #[instV o d a b n] w fun e w' => e = .returned (.bool bR) ∧ Below w.heap.size w w')
    (h11 : ∀ w, Calls Tryd.prog 11 #[.int .u32 W] w fun e w' => e = .returned (.tuple #[instV o' d' a' b' n', .int .i64 ek']) ∧ Below w.heap.size w w')
    (h12 : ∀ w, Tabs T w → Calls Tryd.prog 12 #[.int .u32 W] w fun e w' => e = .returned (.tuple #[instV o' d' a' b' n', er']) ∧ Below w.heap.size w w')
    (h8' : ∀ w, ErrT w → Calls Tryd.prog 8 #[er', .int .i64 ek'] w fun e w' => e = .returned (.bool true) ∧ Below w.heap.size w w') :
    Calls Tryd.prog 3 #[instV o d a b n, .int .u32 W] w fun e w' => e = .returned (.bool true) ∧ Below w.heap.size w w' := by
  have HT : Hid (Tabs T w) := ht
  have HG : Hid (ErrT w) := hg
  clear ht hg
  go_enter Tryd.func3, Tryd.ntmps3
  go_wp2_with (go_at_call 6; fail)
  refine (h6 _).mono ?_
  rintro e w1 ⟨rfl, hb⟩
  have G1 : w1.heap[w.heap.size]? = some (.cells #[.int .i64 o, .int .i64 d, .int .i64 a, .int .i64 b, .int .i64 n] 23) := by
    rw [hb.block _ (by simp)]; exact heap_alloc_last w _
  have B1 : Hid (Below w.heap.size w w1) := ((Below.refl _ _).alloc (Nat.le_refl _) _).trans (hb.mono (by simp))
  have L1 : w.heap.size < w1.heap.size := (Array.getElem?_eq_some_iff.mp G1).1
  have HG1 : Hid (w1.heap[w.heap.size]? = some (.cells #[.int .i64 o, .int .i64 d, .int .i64 a, .int .i64 b, .int .i64 n] 23)) := G1
  have R1 : Hid (w1.rangeAt w.heap.size 0 [.int .i64 o, .int .i64 d, .int .i64 a, .int .i64 b, .int .i64 n]) := range_of_row G1
  clear hb G1
  go_wp2_with (first | (refine wpList_load_w rfl 23 _ rfl w.heap.size 0 rfl [.int .i64 o, .int .i64 d, .int .i64 a, .int .i64 b, .int .i64 n] _ R1.out Tryd.underlying23 rfl (by kernel_rfl) ?_) | (go_at_call 7; fail))
  refine (h7 _ (HT.out.below B1.out)).mono ?_
  rintro e w2 ⟨rfl, hb⟩
  have G2 : w2.heap[w.heap.size]? = some (.cells #[.int .i64 o, .int .i64 d, .int .i64 a, .int .i64 b, .int .i64 n] 23) := by
    rw [hb.block _ L1]; exact HG1.out
  have B2 : Hid (Below w.heap.size w w2) := B1.out.trans (hb.mono (by omega))
  have x0 : w2.cell? ⟨w.heap.size, 0, none⟩ = some (.int .i64 o) := by rw [cell_of_row _ _ _ _ _ _ G2]; rfl
  have x1 : w2.cell? ⟨w.heap.size, 1, none⟩ = some (.int .i64 d) := by rw [cell_of_row _ _ _ _ _ _ G2]; rfl
  have x2 : w2.cell? ⟨w.heap.size, 2, none⟩ = some (.int .i64 a) := by rw [cell_of_row _ _ _ _ _ _ G2]; rfl
  have x3 : w2.cell? ⟨w.heap.size, 3, none⟩ = some (.int .i64 b) := by rw [cell_of_row _ _ _ _ _ _ G2]; rfl
  have x4 : w2.cell? ⟨w.heap.size, 4, none⟩ = some (.int .i64 n) := by rw [cell_of_row _ _ _ _ _ _ G2]; rfl
  clear hb G2 HG1 R1 B1 L1
  go_wp2_with fail
  have k0 := cell_regrown x0
  have k1 := cell_regrown x1
  have k2 := cell_regrown x2
  have k3 := cell_regrown x3
  have k4 := cell_regrown x4
  have C8 : Hid (∀ d1 os, Calls Tryd.prog 8 #[er, .int .i64 ek] (grow (redrawn w2 d1) os) fun e w'' => e = .returned (.bool true) ∧ ∃ p : Regrown, w'' = grow (redrawn w2 p.d) p.os) :=
    fun d1 os => Calls.regrown_of (h8 _ ((HG.out.below B2.out).below (below_regrown w2 d1 os)))
  have C9 : Hid (∀ d1 os, Calls Tryd.prog 9 #[.agg #[.int .i64 o, .int .i64 d, .int .i64 a, .int .i64 b, .int .i64 n]] (grow (redrawn w2 d1) os) fun e w'' => e = .returned (.bool bR) ∧ ∃ p : Regrown, w'' = grow (redrawn w2 p.d) p.os) :=
    fun d1 os => Calls.regrown_of (h9 _ ((HT.out.below B2.out).below (below_regrown w2 d1 os)))
  have C10 : Hid (∀ d1 os, Calls Tryd.prog 10 #[.agg #[.int .i64 o, .int .i64 d, .int .i64 a, .int .i64 b, .int .i64 n]] (grow (redrawn w2 d1) os) fun e w'' => e = .returned (.bool bR) ∧ ∃ p : Regrown, w'' = grow (redrawn w2 p.d) p.os) :=
    fun d1 os => Calls.regrown_of (h10 _)
  refine wp_region_quiet_below (by kernel_rfl) (by kernel_rfl) ?_
  iterate 2 (first | go_big_quiet_step (fail) | quiet_step (fail))
  first | go_big_quiet_step (exact C8.out _ _) | quiet_step (exact C8.out _ _)
  iterate 8 (first | go_big_quiet_step (fail) | quiet_step (fail))
  first | go_big_quiet_step (exact C9.out _ _) | quiet_step (exact C9.out _ _)
  iterate 1 (first | go_big_quiet_step (fail) | quiet_step (fail))
  first | go_big_quiet_step (exact C10.out _ _) | quiet_step (exact C10.out _ _)
  repeat (first | go_big_quiet_step (fail) | quiet_step (fail))
  refine wpQuiet_nil ?_
  intro _ hw'
  obtain ⟨⟨dq, osq⟩, hw''⟩ := hw'
  rw [hw'']
  have B3 : Hid (Below w.heap.size w (grow (redrawn w2 dq) osq)) := B2.out.trans ((below_regrown w2 dq osq).mono B2.out.size)
  clear hw'' k0 k1 k2 k3 k4 x0 x1 x2 x3 x4 C8 C9 C10 B2
  generalize grow (redrawn w2 dq) osq = w3 at *
  cases bR
  all_goals
    go_wp2_with (go_at_call 11; fail)
    refine (h11 _).mono ?_
    rintro e w4 ⟨rfl, hb⟩
    have B4 : Hid (Below w.heap.size w w4) := B3.out.trans (hb.mono B3.out.size)
    clear hb B3
    go_wp2_with (go_at_call 12; fail)
    have BA : Below w4.heap.size w4 (w4.alloc (.cells #[.int .i64 o', .int .i64 d', .int .i64 a', .int .i64 b', .int .i64 n'] 23)) := (Below.refl _ _).alloc (Nat.le_refl _) _
    have B4' : Hid (Below w.heap.size w (w4.alloc (.cells #[.int .i64 o', .int .i64 d', .int .i64 a', .int .i64 b', .int .i64 n'] 23))) := B4.out.trans (BA.mono B4.out.size)
    refine (h12 _ (HT.out.below B4'.out)).mono ?_
    rintro e w5 ⟨rfl, hb⟩
    have G5 : w5.heap[w4.heap.size]? = some (.cells #[.int .i64 o', .int .i64 d', .int .i64 a', .int .i64 b', .int .i64 n'] 23) := by
      rw [hb.block _ (by simp)]; exact heap_alloc_last w4 _
    have B5 : Hid (Below w.heap.size w w5) := B4'.out.trans (hb.mono B4'.out.size)
    have L5 : w4.heap.size < w5.heap.size := (Array.getElem?_eq_some_iff.mp G5).1
    have HG5 : Hid (w5.heap[w4.heap.size]? = some (.cells #[.int .i64 o', .int .i64 d', .int .i64 a', .int .i64 b', .int .i64 n'] 23)) := G5
    clear hb G5 BA B4'
    go_wp2_with (go_at_call 8; fail)
    have BA : Below w5.heap.size w5 (w5.alloc (.cells #[.int .i64 o', .int .i64 d', .int .i64 a', .int .i64 b', .int .i64 n'] 23)) := (Below.refl _ _).alloc (Nat.le_refl _) _
    have B5' : Hid (Below w.heap.size w (w5.alloc (.cells #[.int .i64 o', .int .i64 d', .int .i64 a', .int .i64 b', .int .i64 n'] 23))) := B5.out.trans (BA.mono B5.out.size)
    have G5' : (w5.alloc (.cells #[.int .i64 o', .int .i64 d', .int .i64 a', .int .i64 b', .int .i64 n'] 23)).heap[w4.heap.size]? = some (.cells #[.int .i64 o', .int .i64 d', .int .i64 a', .int .i64 b', .int .i64 n'] 23) := by
      rw [BA.block _ L5]; exact HG5.out
    refine (h8' _ (HG.out.below B5'.out)).mono ?_
    rintro e w6 ⟨rfl, hb⟩
    have GA : w6.heap[w4.heap.size]? = some (.cells #[.int .i64 o', .int .i64 d', .int .i64 a', .int .i64 b', .int .i64 n'] 23) := by
      rw [hb.block _ (by simp; omega)]; exact G5'
    have GB : w6.heap[w5.heap.size]? = some (.cells #[.int .i64 o', .int .i64 d', .int .i64 a', .int .i64 b', .int .i64 n'] 23) := by
      rw [hb.block _ (by simp)]; exact heap_alloc_last w5 _
    have B6 : Hid (Below w.heap.size w w6) := B5'.out.trans (hb.mono B5'.out.size)
    have y0 : w6.cell? ⟨w4.heap.size, 0, none⟩ = some (.int .i64 o') := by rw [cell_of_row _ _ _ _ _ _ GA]; rfl
    have y1 : w6.cell? ⟨w4.heap.size, 1, none⟩ = some (.int .i64 d') := by rw [cell_of_row _ _ _ _ _ _ GA]; rfl
    have y2 : w6.cell? ⟨w4.heap.size, 2, none⟩ = some (.int .i64 a') := by rw [cell_of_row _ _ _ _ _ _ GA]; rfl
    have y3 : w6.cell? ⟨w4.heap.size, 3, none⟩ = some (.int .i64 b') := by rw [cell_of_row _ _ _ _ _ _ GA]; rfl
    have y4 : w6.cell? ⟨w4.heap.size, 4, none⟩ = some (.int .i64 n') := by rw [cell_of_row _ _ _ _ _ _ GA]; rfl
    have z0 : w6.cell? ⟨w5.heap.size, 0, none⟩ = some (.int .i64 o') := by rw [cell_of_row _ _ _ _ _ _ GB]; rfl
    have z1 : w6.cell? ⟨w5.heap.size, 1, none⟩ = some (.int .i64 d') := by rw [cell_of_row _ _ _ _ _ _ GB]; rfl
    have z2 : w6.cell? ⟨w5.heap.size, 2, none⟩ = some (.int .i64 a') := by rw [cell_of_row _ _ _ _ _ _ GB]; rfl
    have z3 : w6.cell? ⟨w5.heap.size, 3, none⟩ = some (.int .i64 b') := by rw [cell_of_row _ _ _ _ _ _ GB]; rfl
    have z4 : w6.cell? ⟨w5.heap.size, 4, none⟩ = some (.int .i64 n') := by rw [cell_of_row _ _ _ _ _ _ GB]; rfl
    clear hb GA GB G5' BA B5' HG5
    go_wp2
    go_ret
    exact ⟨ret_bool (by simp), B6.out⟩

theorem errT_b {k : Int} : ((k : Int) == k) = true := by simp
/-- WordForms: for every instruction and every word it returns true. -/
theorem forms_walk (o d a b n W : Int) (w : World) (ht : Tabs T w) (hg : ErrT w) (hW0 : 0 ≤ W) (hW1 : W < 4294967296) :
    Calls Tryd.prog 3 #[instV o d a b n, .int .u32 W] w fun e w' => e = .returned (.bool true) ∧ Below w.heap.size w w' := by
  have h9 : ∀ w, Tabs T w → Calls Tryd.prog 9 #[instV o d a b n] w fun e w' => e = .returned (.bool (Rt o d a b n)) ∧ Below w.heap.size w w' := fun w ht => right_T o d a b n w ht
  have h10 := right_doc o d a b n
  have k00 : ∀ w, ErrT w → Calls Tryd.prog 8 #[.nilIface, .int .i64 0] w fun e w' => e = .returned (.bool true) ∧ Below w.heap.size w w' := fun w hg => bare_nil 0 w hg
  have kjj : ∀ j : Int, ∀ w, ErrT w → Calls Tryd.prog 8 #[errV j, .int .i64 j] w fun e w' => e = .returned (.bool true) ∧ Below w.heap.size w w' := fun j w hg => by
    have h := bare_err j j w hg
    rw [errT_b] at h
    exact h
  have hdec : ∃ (o' d' a' b' n' ek' : Int) (er' : Value), (∀ w, Calls Tryd.prog 11 #[.int .u32 W] w fun e w' => e = .returned (.tuple #[instV o' d' a' b' n', .int .i64 ek']) ∧ Below w.heap.size w w') ∧
      (∀ w, Tabs T w → Calls Tryd.prog 12 #[.int .u32 W] w fun e w' => e = .returned (.tuple #[instV o' d' a' b' n', er']) ∧ Below w.heap.size w w') ∧
      (∀ w, ErrT w → Calls Tryd.prog 8 #[er', .int .i64 ek'] w fun e w' => e = .returned (.bool true) ∧ Below w.heap.size w w') := by
    by_cases hn : NoOp W
    · refine ⟨0, 0, 0, 0, 0, 3, errV 3, fun w => decdoc_no W w hW0 hW1 fun o d a b n hr hw => ?_, fun w ht => decode_none W w hW0 hW1 ht hn, kjj 3⟩
      obtain ⟨h1, h2, h3⟩ := Rt_split hr
      obtain ⟨k, rfl⟩ := Int.eq_ofNat_of_zero_le (show 0 ≤ o by omega)
      rw [Int.toNat_natCast] at h3
      obtain ⟨V, hlt, e1, hit, _⟩ := enc_all k (by omega) (by omega) d a b n h3
      unfold Wd at hw
      rw [Int.toNat_natCast, e1] at hw
      subst hw
      have := hn k (by omega) (by omega)
      rw [(hitB_iff V k).2 hit] at this
      cases this
    · obtain ⟨o', d', a', b', n', hr, hw, hc⟩ := decode_some W hW0 hW1 hn
      subst hw
      exact ⟨o', d', a', b', n', 0, .nilIface, fun w => decdoc_ok o' d' a' b' n' w hr, hc, k00⟩
  obtain ⟨o', d', a', b', n', ek', er', h11, h12, h8'⟩ := hdec
  cases hR : Rt o d a b n with
  | false =>
    rw [hR] at h9 h10
    exact forms_core o d a b n W 0 1 o' d' a' b' n' ek' (errV 1) er' false w ht hg (fun w => encdoc_no o d a b n w hR) (fun w ht => encode_err o d a b n w ht hR) (kjj 1) h9 h10 h11 h12 h8'
  | true =>
    simp only [hR] at h9 h10
    exact forms_core o d a b n W (Wd o d a b n) 0 o' d' a' b' n' ek' .nilIface er' true w ht hg (fun w => encdoc_ok o d a b n w hR) (fun w ht => encode_ok o d a b n w ht hR) k00 h9 h10 h11 h12 h8'
end Go.Proofs.YtchankbdfkgdiaaDoor
