/- WordBack, walked: one of its ways. -/
import Derived.Test.YtbnbkbccgojchaaDoorD2
namespace Go.Proofs.YtbnbkbccgojchaaDoor
open Go Go.RowKit Go.Sort

set_option maxRecDepth 100000 in
set_option maxHeartbeats 1000000 in
theorem back_N_LR (o d a b n o' d' a' b' n' x : Int) (w : World) (ht : Tabs T w) (hx0 : 0 ≤ x) (hx1 : x < 4294967296) (hn : NoOp x) (hr : Rt o d a b n = false) (hr' : Rt o' d' a' b' n' = true) :
    Calls Tryd.prog 4 #[instV o d a b n, instV o' d' a' b' n', .int .u32 x] w fun e w' => e = .returned (.bool true) ∧ Below w.heap.size w w' := by
  have HT : Hid (Tabs T w) := ht
  have HN : Hid (NoOp x) := hn
  clear ht hn
  have T0 : Hid (Two w o d a b n o' d' a' b' n' _) := Two.begin w o d a b n o' d' a' b' n'
  go_enter Tryd.func4, Tryd.ntmps4
  go_wp2_with fail
  refine (worded_T _ (HT.out.below T0.out.bel)).mono ?_
  rintro e w1 ⟨rfl, hb1⟩
  have T1 : Hid (Two w o d a b n o' d' a' b' n' w1) := T0.out.below hb1
  clear hb1 T0
  go_wp2_with fail
  refine (decode_none x _ hx0 hx1 (HT.out.below T1.out.bel) HN.out).mono ?_
  rintro e w2 ⟨rfl, hb2⟩
  have T2 : Hid (Two w o d a b n o' d' a' b' n' (w2.alloc (.cells #[.int .i64 0, .int .i64 0, .int .i64 0, .int .i64 0, .int .i64 0] 23))) := (T1.out.below hb2).alloc _
  clear hb2 T1
  obtain ⟨s0, s1, s2, s3, s4, s5, s6, s7, s8, s9, s10, s11⟩ := T2.out
  clear s1
  go_wp2_with fail
  refine (encode_err o d a b n _ (HT.out.below T2.out.bel) hr).mono ?_
  rintro e w5 ⟨rfl, hb5⟩
  have T5 : Hid (Two w o d a b n o' d' a' b' n' w5) := T2.out.below hb5
  clear hb5 T2 s0 s2 s3 s4 s5 s6 s7 s8 s9 s10 s11
  obtain ⟨s0, s1, s2, s3, s4, s5, s6, s7, s8, s9, s10, s11⟩ := T5.out
  clear s1
  go_wp2_with fail
  refine (encode_ok o' d' a' b' n' _ (HT.out.below T5.out.bel) hr').mono ?_
  rintro e w6 ⟨rfl, hb6⟩
  have T6 : Hid (Two w o d a b n o' d' a' b' n' w6) := T5.out.below hb6
  clear hb6 T5 s0 s2 s3 s4 s5 s6 s7 s8 s9 s10 s11
  go_wp2_with fail
  have k0 := cell_regrown T6.out.x0
  have k1 := cell_regrown T6.out.x1
  have k2 := cell_regrown T6.out.x2
  have k3 := cell_regrown T6.out.x3
  have k4 := cell_regrown T6.out.x4
  have l0 := cell_regrown T6.out.y0
  have l1 := cell_regrown T6.out.y1
  have l2 := cell_regrown T6.out.y2
  have l3 := cell_regrown T6.out.y3
  have l4 := cell_regrown T6.out.y4
  have CX : Hid (∀ d1 os, Calls Tryd.prog 9 #[.agg #[.int .i64 o, .int .i64 d, .int .i64 a, .int .i64 b, .int .i64 n]] (grow (redrawn w6 d1) os) fun e w'' => e = .returned (.bool (Rt o d a b n)) ∧ ∃ p : Regrown, w'' = grow (redrawn w6 p.d) p.os) :=
    fun d1 os => Calls.regrown_of (right_T _ _ _ _ _ _ ((HT.out.below T6.out.bel).below (below_regrown w6 d1 os)))
  have CY : Hid (∀ d1 os, Calls Tryd.prog 9 #[.agg #[.int .i64 o', .int .i64 d', .int .i64 a', .int .i64 b', .int .i64 n']] (grow (redrawn w6 d1) os) fun e w'' => e = .returned (.bool (Rt o' d' a' b' n')) ∧ ∃ p : Regrown, w'' = grow (redrawn w6 p.d) p.os) :=
    fun d1 os => Calls.regrown_of (right_T _ _ _ _ _ _ ((HT.out.below T6.out.bel).below (below_regrown w6 d1 os)))
  refine wp_region_quiet_below (by kernel_rfl) (by kernel_rfl) ?_
  iterate 3 (first | go_big_quiet_step (fail) | quiet_step (fail))
  first | go_big_quiet_step (exact CX.out _ _) | quiet_step (exact CX.out _ _)
  iterate 5 (first | go_big_quiet_step (fail) | quiet_step (fail))
  first | go_big_quiet_step (exact CY.out _ _) | quiet_step (exact CY.out _ _)
  repeat (first | go_big_quiet_step (fail) | quiet_step (fail))
  refine wpQuiet_nil ?_
  intro _ hw'
  obtain ⟨⟨dq, osq⟩, hw''⟩ := hw'
  rw [hw'']
  have T7 : Hid (Two w o d a b n o' d' a' b' n' (grow (redrawn w6 dq) osq)) := T6.out.below (below_regrown w6 dq osq)
  clear hw'' k0 k1 k2 k3 k4 l0 l1 l2 l3 l4 CX CY T6
  generalize grow (redrawn w6 dq) osq = w7 at *
  go_wp2
  go_ret
  exact ⟨rfl, T7.out.bel⟩
set_option maxRecDepth 100000 in
set_option maxHeartbeats 1000000 in
theorem back_N_LL (o d a b n o' d' a' b' n' x : Int) (w : World) (ht : Tabs T w) (hx0 : 0 ≤ x) (hx1 : x < 4294967296) (hn : NoOp x) (hr : Rt o d a b n = false) (hr' : Rt o' d' a' b' n' = false) :
    Calls Tryd.prog 4 #[instV o d a b n, instV o' d' a' b' n', .int .u32 x] w fun e w' => e = .returned (.bool true) ∧ Below w.heap.size w w' := by
  have HT : Hid (Tabs T w) := ht
  have HN : Hid (NoOp x) := hn
  clear ht hn
  have T0 : Hid (Two w o d a b n o' d' a' b' n' _) := Two.begin w o d a b n o' d' a' b' n'
  go_enter Tryd.func4, Tryd.ntmps4
  go_wp2_with fail
  refine (worded_T _ (HT.out.below T0.out.bel)).mono ?_
  rintro e w1 ⟨rfl, hb1⟩
  have T1 : Hid (Two w o d a b n o' d' a' b' n' w1) := T0.out.below hb1
  clear hb1 T0
  go_wp2_with fail
  refine (decode_none x _ hx0 hx1 (HT.out.below T1.out.bel) HN.out).mono ?_
  rintro e w2 ⟨rfl, hb2⟩
  have T2 : Hid (Two w o d a b n o' d' a' b' n' (w2.alloc (.cells #[.int .i64 0, .int .i64 0, .int .i64 0, .int .i64 0, .int .i64 0] 23))) := (T1.out.below hb2).alloc _
  clear hb2 T1
  obtain ⟨s0, s1, s2, s3, s4, s5, s6, s7, s8, s9, s10, s11⟩ := T2.out
  clear s1
  go_wp2_with fail
  refine (encode_err o d a b n _ (HT.out.below T2.out.bel) hr).mono ?_
  rintro e w5 ⟨rfl, hb5⟩
  have T5 : Hid (Two w o d a b n o' d' a' b' n' w5) := T2.out.below hb5
  clear hb5 T2 s0 s2 s3 s4 s5 s6 s7 s8 s9 s10 s11
  obtain ⟨s0, s1, s2, s3, s4, s5, s6, s7, s8, s9, s10, s11⟩ := T5.out
  clear s1
  go_wp2_with fail
  refine (encode_err o' d' a' b' n' _ (HT.out.below T5.out.bel) hr').mono ?_
  rintro e w6 ⟨rfl, hb6⟩
  have T6 : Hid (Two w o d a b n o' d' a' b' n' w6) := T5.out.below hb6
  clear hb6 T5 s0 s2 s3 s4 s5 s6 s7 s8 s9 s10 s11
  go_wp2_with fail
  have k0 := cell_regrown T6.out.x0
  have k1 := cell_regrown T6.out.x1
  have k2 := cell_regrown T6.out.x2
  have k3 := cell_regrown T6.out.x3
  have k4 := cell_regrown T6.out.x4
  have l0 := cell_regrown T6.out.y0
  have l1 := cell_regrown T6.out.y1
  have l2 := cell_regrown T6.out.y2
  have l3 := cell_regrown T6.out.y3
  have l4 := cell_regrown T6.out.y4
  have CX : Hid (∀ d1 os, Calls Tryd.prog 9 #[.agg #[.int .i64 o, .int .i64 d, .int .i64 a, .int .i64 b, .int .i64 n]] (grow (redrawn w6 d1) os) fun e w'' => e = .returned (.bool (Rt o d a b n)) ∧ ∃ p : Regrown, w'' = grow (redrawn w6 p.d) p.os) :=
    fun d1 os => Calls.regrown_of (right_T _ _ _ _ _ _ ((HT.out.below T6.out.bel).below (below_regrown w6 d1 os)))
  have CY : Hid (∀ d1 os, Calls Tryd.prog 9 #[.agg #[.int .i64 o', .int .i64 d', .int .i64 a', .int .i64 b', .int .i64 n']] (grow (redrawn w6 d1) os) fun e w'' => e = .returned (.bool (Rt o' d' a' b' n')) ∧ ∃ p : Regrown, w'' = grow (redrawn w6 p.d) p.os) :=
    fun d1 os => Calls.regrown_of (right_T _ _ _ _ _ _ ((HT.out.below T6.out.bel).below (below_regrown w6 d1 os)))
  refine wp_region_quiet_below (by kernel_rfl) (by kernel_rfl) ?_
  iterate 3 (first | go_big_quiet_step (fail) | quiet_step (fail))
  first | go_big_quiet_step (exact CX.out _ _) | quiet_step (exact CX.out _ _)
  iterate 5 (first | go_big_quiet_step (fail) | quiet_step (fail))
  first | go_big_quiet_step (exact CY.out _ _) | quiet_step (exact CY.out _ _)
  repeat (first | go_big_quiet_step (fail) | quiet_step (fail))
  refine wpQuiet_nil ?_
  intro _ hw'
  obtain ⟨⟨dq, osq⟩, hw''⟩ := hw'
  rw [hw'']
  have T7 : Hid (Two w o d a b n o' d' a' b' n' (grow (redrawn w6 dq) osq)) := T6.out.below (below_regrown w6 dq osq)
  clear hw'' k0 k1 k2 k3 k4 l0 l1 l2 l3 l4 CX CY T6
  generalize grow (redrawn w6 dq) osq = w7 at *
  go_wp2
  go_ret
  exact ⟨rfl, T7.out.bel⟩
end Go.Proofs.YtbnbkbccgojchaaDoor
