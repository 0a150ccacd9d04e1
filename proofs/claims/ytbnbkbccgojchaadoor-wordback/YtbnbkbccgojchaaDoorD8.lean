/- WordBack, walked: one of its ways. -/
import Derived.Test.YtbnbkbccgojchaaDoorD2
namespace Go.Proofs.YtbnbkbccgojchaaDoor
open Go Go.RowKit Go.Sort

set_option maxRecDepth 100000 in
set_option maxHeartbeats 1000000 in
theorem back_H_NE0 (o d a b n o' d' a' b' n' x : Int) (w : World) (ht : Tabs T w) (hx0 : 0 ≤ x) (hx1 : x < 4294967296) (hn : ¬ NoOp x) (hr : Rt o d a b n = true) (hr' : Rt o' d' a' b' n' = true) (hne : ¬ o = o') :
    Calls Tryd.prog 4 #[instV o d a b n, instV o' d' a' b' n', .int .u32 x] w fun e w' => e = .returned (.bool true) ∧ Below w.heap.size w w' := by
  have HT : Hid (Tabs T w) := ht
  have HN : Hid (¬ NoOp x) := hn
  clear ht hn
  have T0 : Hid (Two w o d a b n o' d' a' b' n' _) := Two.begin w o d a b n o' d' a' b' n'
  go_enter Tryd.func4, Tryd.ntmps4
  go_wp2_with fail
  refine (worded_T _ (HT.out.below T0.out.bel)).mono ?_
  rintro e w1 ⟨rfl, hb1⟩
  have T1 : Hid (Two w o d a b n o' d' a' b' n' w1) := T0.out.below hb1
  clear hb1 T0
  go_wp2_with fail
  obtain ⟨p, q, r, s, u, hz, hw, hd⟩ := decode_some x hx0 hx1 HN.out
  have HZ : Hid (Wd p q r s u = x) := hw
  have HD : Hid (∀ w, Tabs T w → Calls Tryd.prog 12 #[.int .u32 x] w fun e w' => e = .returned (.tuple #[instV p q r s u, .nilIface]) ∧ Below w.heap.size w w') := hd
  clear hw hd
  refine (HD.out _ (HT.out.below T1.out.bel)).mono ?_
  rintro e w2 ⟨rfl, hb2⟩
  have T2 : Hid (Two w o d a b n o' d' a' b' n' (w2.alloc (.cells #[.int .i64 p, .int .i64 q, .int .i64 r, .int .i64 s, .int .i64 u] 23))) := (T1.out.below hb2).alloc _
  clear hb2 T1
  go_wp2_with fail
  have HE := encode_ok p q r s u _ (HT.out.below T2.out.bel) hz
  rw [HZ.out] at HE
  refine HE.mono ?_
  clear HE
  rintro e w3 ⟨rfl, hb3⟩
  obtain ⟨v0, v1, v2, v3, v4⟩ := box5 hb3
  have T3 : Hid (Two w o d a b n o' d' a' b' n' w3) := T2.out.below hb3
  clear hb3 T2
  go_wp2_with fail
  have HE := right_T p q r s u _ (HT.out.below T3.out.bel)
  rw [hz] at HE
  refine HE.mono ?_
  clear HE
  rintro e w4 ⟨rfl, hb4⟩
  have T4 : Hid (Two w o d a b n o' d' a' b' n' w4) := T3.out.below hb4
  clear hb4 T3 v0 v1 v2 v3 v4
  obtain ⟨s0, s1, s2, s3, s4, s5, s6, s7, s8, s9, s10, s11⟩ := T4.out
  clear s1
  go_wp2_with fail
  refine (encode_ok o d a b n _ (HT.out.below T4.out.bel) hr).mono ?_
  rintro e w5 ⟨rfl, hb5⟩
  have T5 : Hid (Two w o d a b n o' d' a' b' n' w5) := T4.out.below hb5
  clear hb5 T4 s0 s2 s3 s4 s5 s6 s7 s8 s9 s10 s11
  obtain ⟨s0, s1, s2, s3, s4, s5, s6, s7, s8, s9, s10, s11⟩ := T5.out
  clear s1
  go_wp2_with fail
  refine (encode_ok o' d' a' b' n' _ (HT.out.below T5.out.bel) hr').mono ?_
  rintro e w6 ⟨rfl, hb6⟩
  have T6 : Hid (Two w o d a b n o' d' a' b' n' w6) := T5.out.below hb6
  clear hb6 T5 s0 s2 s3 s4 s5 s6 s7 s8 s9 s10 s11
  go_wp2_with fail
  have k0 := cell_regrown T6.out.x0
  have k1 := cell_regrown T6.out.x1
  have k2 := cell_regrown T6.out.x2
  have k3 := cell_regrown T6.out.x3
  have k4 := cell_regrown T6.out.x4
  have l0 := cell_regrown T6.out.y0
  have l1 := cell_regrown T6.out.y1
  have l2 := cell_regrown T6.out.y2
  have l3 := cell_regrown T6.out.y3
  have l4 := cell_regrown T6.out.y4
  have CX : Hid (∀ d1 os, Calls Tryd.prog 9 #[.agg #[.int .i64 o, .int .i64 d, .int .i64 a, .int .i64 b, .int .i64 n]] (grow (redrawn w6 d1) os) fun e w'' => e = .returned (.bool (Rt o d a b n)) ∧ ∃ p : Regrown, w'' = grow (redrawn w6 p.d) p.os) :=
    fun d1 os => Calls.regrown_of (right_T _ _ _ _ _ _ ((HT.out.below T6.out.bel).below (below_regrown w6 d1 os)))
  have CY : Hid (∀ d1 os, Calls Tryd.prog 9 #[.agg #[.int .i64 o', .int .i64 d', .int .i64 a', .int .i64 b', .int .i64 n']] (grow (redrawn w6 d1) os) fun e w'' => e = .returned (.bool (Rt o' d' a' b' n')) ∧ ∃ p : Regrown, w'' = grow (redrawn w6 p.d) p.os) :=
    fun d1 os => Calls.regrown_of (right_T _ _ _ _ _ _ ((HT.out.below T6.out.bel).below (below_regrown w6 d1 os)))
  have hwne : (Wd o d a b n == Wd o' d' a' b' n') = false := by
    simp only [beq_eq_false_iff_ne]
    exact fun h => hne (Wd_inj hr hr' h).1
  refine wp_region_quiet_below (by kernel_rfl) (by kernel_rfl) ?_
  iterate 3 (first | go_big_quiet_step (fail) | quiet_step (fail))
  first | go_big_quiet_step (exact CX.out _ _) | quiet_step (exact CX.out _ _)
  iterate 5 (first | go_big_quiet_step (fail) | quiet_step (fail))
  first | go_big_quiet_step (exact CY.out _ _) | quiet_step (exact CY.out _ _)
  repeat (first | go_big_quiet_step (fail) | quiet_step (fail))
  refine wpQuiet_nil ?_
  intro _ hw'
  obtain ⟨⟨dq, osq⟩, hw''⟩ := hw'
  rw [hw'']
  have T7 : Hid (Two w o d a b n o' d' a' b' n' (grow (redrawn w6 dq) osq)) := T6.out.below (below_regrown w6 dq osq)
  clear hw'' k0 k1 k2 k3 k4 l0 l1 l2 l3 l4 CX CY T6
  generalize grow (redrawn w6 dq) osq = w7 at *
  go_wp2_with fail
  refine (decode_back o d a b n _ (HT.out.below T7.out.bel) hr).mono ?_
  rintro e w8 ⟨rfl, hb8⟩
  have T8 : Hid (Two w o d a b n o' d' a' b' n' (w8.alloc (.cells #[.int .i64 o, .int .i64 d, .int .i64 a, .int .i64 b, .int .i64 n] 23))) := (T7.out.below hb8).alloc _
  have T9 : Hid (Two w o d a b n o' d' a' b' n' w8) := T7.out.below hb8
  clear hb8 T7
  obtain ⟨s0, s1, s2, s3, s4, s5, s6, s7, s8, s9, s10, s11⟩ := T9.out
  have hz8 : w.heap.size < w8.heap.size := by omega
  clear s1 s7 s8 s9 s10 s11 s0
  go_wp2
  go_ret
  exact ⟨rfl, T8.out.bel⟩
set_option maxRecDepth 100000 in
set_option maxHeartbeats 1000000 in
theorem back_H_NE1 (o d a b n d' a' b' n' x : Int) (w : World) (ht : Tabs T w) (hx0 : 0 ≤ x) (hx1 : x < 4294967296) (hn : ¬ NoOp x) (hr : Rt o d a b n = true) (hr' : Rt o d' a' b' n' = true) (hne : ¬ d = d') :
    Calls Tryd.prog 4 #[instV o d a b n, instV o d' a' b' n', .int .u32 x] w fun e w' => e = .returned (.bool true) ∧ Below w.heap.size w w' := by
  have HT : Hid (Tabs T w) := ht
  have HN : Hid (¬ NoOp x) := hn
  clear ht hn
  have T0 : Hid (Two w o d a b n o d' a' b' n' _) := Two.begin w o d a b n o d' a' b' n'
  go_enter Tryd.func4, Tryd.ntmps4
  go_wp2_with fail
  refine (worded_T _ (HT.out.below T0.out.bel)).mono ?_
  rintro e w1 ⟨rfl, hb1⟩
  have T1 : Hid (Two w o d a b n o d' a' b' n' w1) := T0.out.below hb1
  clear hb1 T0
  go_wp2_with fail
  obtain ⟨p, q, r, s, u, hz, hw, hd⟩ := decode_some x hx0 hx1 HN.out
  have HZ : Hid (Wd p q r s u = x) := hw
  have HD : Hid (∀ w, Tabs T w → Calls Tryd.prog 12 #[.int .u32 x] w fun e w' => e = .returned (.tuple #[instV p q r s u, .nilIface]) ∧ Below w.heap.size w w') := hd
  clear hw hd
  refine (HD.out _ (HT.out.below T1.out.bel)).mono ?_
  rintro e w2 ⟨rfl, hb2⟩
  have T2 : Hid (Two w o d a b n o d' a' b' n' (w2.alloc (.cells #[.int .i64 p, .int .i64 q, .int .i64 r, .int .i64 s, .int .i64 u] 23))) := (T1.out.below hb2).alloc _
  clear hb2 T1
  go_wp2_with fail
  have HE := encode_ok p q r s u _ (HT.out.below T2.out.bel) hz
  rw [HZ.out] at HE
  refine HE.mono ?_
  clear HE
  rintro e w3 ⟨rfl, hb3⟩
  obtain ⟨v0, v1, v2, v3, v4⟩ := box5 hb3
  have T3 : Hid (Two w o d a b n o d' a' b' n' w3) := T2.out.below hb3
  clear hb3 T2
  go_wp2_with fail
  have HE := right_T p q r s u _ (HT.out.below T3.out.bel)
  rw [hz] at HE
  refine HE.mono ?_
  clear HE
  rintro e w4 ⟨rfl, hb4⟩
  have T4 : Hid (Two w o d a b n o d' a' b' n' w4) := T3.out.below hb4
  clear hb4 T3 v0 v1 v2 v3 v4
  obtain ⟨s0, s1, s2, s3, s4, s5, s6, s7, s8, s9, s10, s11⟩ := T4.out
  clear s1
  go_wp2_with fail
  refine (encode_ok o d a b n _ (HT.out.below T4.out.bel) hr).mono ?_
  rintro e w5 ⟨rfl, hb5⟩
  have T5 : Hid (Two w o d a b n o d' a' b' n' w5) := T4.out.below hb5
  clear hb5 T4 s0 s2 s3 s4 s5 s6 s7 s8 s9 s10 s11
  obtain ⟨s0, s1, s2, s3, s4, s5, s6, s7, s8, s9, s10, s11⟩ := T5.out
  clear s1
  go_wp2_with fail
  refine (encode_ok o d' a' b' n' _ (HT.out.below T5.out.bel) hr').mono ?_
  rintro e w6 ⟨rfl, hb6⟩
  have T6 : Hid (Two w o d a b n o d' a' b' n' w6) := T5.out.below hb6
  clear hb6 T5 s0 s2 s3 s4 s5 s6 s7 s8 s9 s10 s11
  go_wp2_with fail
  have k0 := cell_regrown T6.out.x0
  have k1 := cell_regrown T6.out.x1
  have k2 := cell_regrown T6.out.x2
  have k3 := cell_regrown T6.out.x3
  have k4 := cell_regrown T6.out.x4
  have l0 := cell_regrown T6.out.y0
  have l1 := cell_regrown T6.out.y1
  have l2 := cell_regrown T6.out.y2
  have l3 := cell_regrown T6.out.y3
  have l4 := cell_regrown T6.out.y4
  have CX : Hid (∀ d1 os, Calls Tryd.prog 9 #[.agg #[.int .i64 o, .int .i64 d, .int .i64 a, .int .i64 b, .int .i64 n]] (grow (redrawn w6 d1) os) fun e w'' => e = .returned (.bool (Rt o d a b n)) ∧ ∃ p : Regrown, w'' = grow (redrawn w6 p.d) p.os) :=
    fun d1 os => Calls.regrown_of (right_T _ _ _ _ _ _ ((HT.out.below T6.out.bel).below (below_regrown w6 d1 os)))
  have CY : Hid (∀ d1 os, Calls Tryd.prog 9 #[.agg #[.int .i64 o, .int .i64 d', .int .i64 a', .int .i64 b', .int .i64 n']] (grow (redrawn w6 d1) os) fun e w'' => e = .returned (.bool (Rt o d' a' b' n')) ∧ ∃ p : Regrown, w'' = grow (redrawn w6 p.d) p.os) :=
    fun d1 os => Calls.regrown_of (right_T _ _ _ _ _ _ ((HT.out.below T6.out.bel).below (below_regrown w6 d1 os)))
  have hwne : (Wd o d a b n == Wd o d' a' b' n') = false := by
    simp only [beq_eq_false_iff_ne]
    exact fun h => hne (Wd_inj hr hr' h).2.1
  refine wp_region_quiet_below (by kernel_rfl) (by kernel_rfl) ?_
  iterate 3 (first | go_big_quiet_step (fail) | quiet_step (fail))
  first | go_big_quiet_step (exact CX.out _ _) | quiet_step (exact CX.out _ _)
  iterate 5 (first | go_big_quiet_step (fail) | quiet_step (fail))
  first | go_big_quiet_step (exact CY.out _ _) | quiet_step (exact CY.out _ _)
  repeat (first | go_big_quiet_step (fail) | quiet_step (fail))
  refine wpQuiet_nil ?_
  intro _ hw'
  obtain ⟨⟨dq, osq⟩, hw''⟩ := hw'
  rw [hw'']
  have T7 : Hid (Two w o d a b n o d' a' b' n' (grow (redrawn w6 dq) osq)) := T6.out.below (below_regrown w6 dq osq)
  clear hw'' k0 k1 k2 k3 k4 l0 l1 l2 l3 l4 CX CY T6
  generalize grow (redrawn w6 dq) osq = w7 at *
  go_wp2_with fail
  refine (decode_back o d a b n _ (HT.out.below T7.out.bel) hr).mono ?_
  rintro e w8 ⟨rfl, hb8⟩
  have T8 : Hid (Two w o d a b n o d' a' b' n' (w8.alloc (.cells #[.int .i64 o, .int .i64 d, .int .i64 a, .int .i64 b, .int .i64 n] 23))) := (T7.out.below hb8).alloc _
  have T9 : Hid (Two w o d a b n o d' a' b' n' w8) := T7.out.below hb8
  clear hb8 T7
  obtain ⟨s0, s1, s2, s3, s4, s5, s6, s7, s8, s9, s10, s11⟩ := T9.out
  have hz8 : w.heap.size < w8.heap.size := by omega
  clear s1 s7 s8 s9 s10 s11 s0
  go_wp2
  go_ret
  exact ⟨rfl, T8.out.bel⟩
set_option maxRecDepth 100000 in
set_option maxHeartbeats 1000000 in
theorem back_H_NE2 (o d a b n a' b' n' x : Int) (w : World) (ht : Tabs T w) (hx0 : 0 ≤ x) (hx1 : x < 4294967296) (hn : ¬ NoOp x) (hr : Rt o d a b n = true) (hr' : Rt o d a' b' n' = true) (hne : ¬ a = a') :
    Calls Tryd.prog 4 #[instV o d a b n, instV o d a' b' n', .int .u32 x] w fun e w' => e = .returned (.bool true) ∧ Below w.heap.size w w' := by
  have HT : Hid (Tabs T w) := ht
  have HN : Hid (¬ NoOp x) := hn
  clear ht hn
  have T0 : Hid (Two w o d a b n o d a' b' n' _) := Two.begin w o d a b n o d a' b' n'
  go_enter Tryd.func4, Tryd.ntmps4
  go_wp2_with fail
  refine (worded_T _ (HT.out.below T0.out.bel)).mono ?_
  rintro e w1 ⟨rfl, hb1⟩
  have T1 : Hid (Two w o d a b n o d a' b' n' w1) := T0.out.below hb1
  clear hb1 T0
  go_wp2_with fail
  obtain ⟨p, q, r, s, u, hz, hw, hd⟩ := decode_some x hx0 hx1 HN.out
  have HZ : Hid (Wd p q r s u = x) := hw
  have HD : Hid (∀ w, Tabs T w → Calls Tryd.prog 12 #[.int .u32 x] w fun e w' => e = .returned (.tuple #[instV p q r s u, .nilIface]) ∧ Below w.heap.size w w') := hd
  clear hw hd
  refine (HD.out _ (HT.out.below T1.out.bel)).mono ?_
  rintro e w2 ⟨rfl, hb2⟩
  have T2 : Hid (Two w o d a b n o d a' b' n' (w2.alloc (.cells #[.int .i64 p, .int .i64 q, .int .i64 r, .int .i64 s, .int .i64 u] 23))) := (T1.out.below hb2).alloc _
  clear hb2 T1
  go_wp2_with fail
  have HE := encode_ok p q r s u _ (HT.out.below T2.out.bel) hz
  rw [HZ.out] at HE
  refine HE.mono ?_
  clear HE
  rintro e w3 ⟨rfl, hb3⟩
  obtain ⟨v0, v1, v2, v3, v4⟩ := box5 hb3
  have T3 : Hid (Two w o d a b n o d a' b' n' w3) := T2.out.below hb3
  clear hb3 T2
  go_wp2_with fail
  have HE := right_T p q r s u _ (HT.out.below T3.out.bel)
  rw [hz] at HE
  refine HE.mono ?_
  clear HE
  rintro e w4 ⟨rfl, hb4⟩
  have T4 : Hid (Two w o d a b n o d a' b' n' w4) := T3.out.below hb4
  clear hb4 T3 v0 v1 v2 v3 v4
  obtain ⟨s0, s1, s2, s3, s4, s5, s6, s7, s8, s9, s10, s11⟩ := T4.out
  clear s1
  go_wp2_with fail
  refine (encode_ok o d a b n _ (HT.out.below T4.out.bel) hr).mono ?_
  rintro e w5 ⟨rfl, hb5⟩
  have T5 : Hid (Two w o d a b n o d a' b' n' w5) := T4.out.below hb5
  clear hb5 T4 s0 s2 s3 s4 s5 s6 s7 s8 s9 s10 s11
  obtain ⟨s0, s1, s2, s3, s4, s5, s6, s7, s8, s9, s10, s11⟩ := T5.out
  clear s1
  go_wp2_with fail
  refine (encode_ok o d a' b' n' _ (HT.out.below T5.out.bel) hr').mono ?_
  rintro e w6 ⟨rfl, hb6⟩
  have T6 : Hid (Two w o d a b n o d a' b' n' w6) := T5.out.below hb6
  clear hb6 T5 s0 s2 s3 s4 s5 s6 s7 s8 s9 s10 s11
  go_wp2_with fail
  have k0 := cell_regrown T6.out.x0
  have k1 := cell_regrown T6.out.x1
  have k2 := cell_regrown T6.out.x2
  have k3 := cell_regrown T6.out.x3
  have k4 := cell_regrown T6.out.x4
  have l0 := cell_regrown T6.out.y0
  have l1 := cell_regrown T6.out.y1
  have l2 := cell_regrown T6.out.y2
  have l3 := cell_regrown T6.out.y3
  have l4 := cell_regrown T6.out.y4
  have CX : Hid (∀ d1 os, Calls Tryd.prog 9 #[.agg #[.int .i64 o, .int .i64 d, .int .i64 a, .int .i64 b, .int .i64 n]] (grow (redrawn w6 d1) os) fun e w'' => e = .returned (.bool (Rt o d a b n)) ∧ ∃ p : Regrown, w'' = grow (redrawn w6 p.d) p.os) :=
    fun d1 os => Calls.regrown_of (right_T _ _ _ _ _ _ ((HT.out.below T6.out.bel).below (below_regrown w6 d1 os)))
  have CY : Hid (∀ d1 os, Calls Tryd.prog 9 #[.agg #[.int .i64 o, .int .i64 d, .int .i64 a', .int .i64 b', .int .i64 n']] (grow (redrawn w6 d1) os) fun e w'' => e = .returned (.bool (Rt o d a' b' n')) ∧ ∃ p : Regrown, w'' = grow (redrawn w6 p.d) p.os) :=
    fun d1 os => Calls.regrown_of (right_T _ _ _ _ _ _ ((HT.out.below T6.out.bel).below (below_regrown w6 d1 os)))
  have hwne : (Wd o d a b n == Wd o d a' b' n') = false := by
    simp only [beq_eq_false_iff_ne]
    exact fun h => hne (Wd_inj hr hr' h).2.2.1
  refine wp_region_quiet_below (by kernel_rfl) (by kernel_rfl) ?_
  iterate 3 (first | go_big_quiet_step (fail) | quiet_step (fail))
  first | go_big_quiet_step (exact CX.out _ _) | quiet_step (exact CX.out _ _)
  iterate 5 (first | go_big_quiet_step (fail) | quiet_step (fail))
  first | go_big_quiet_step (exact CY.out _ _) | quiet_step (exact CY.out _ _)
  repeat (first | go_big_quiet_step (fail) | quiet_step (fail))
  refine wpQuiet_nil ?_
  intro _ hw'
  obtain ⟨⟨dq, osq⟩, hw''⟩ := hw'
  rw [hw'']
  have T7 : Hid (Two w o d a b n o d a' b' n' (grow (redrawn w6 dq) osq)) := T6.out.below (below_regrown w6 dq osq)
  clear hw'' k0 k1 k2 k3 k4 l0 l1 l2 l3 l4 CX CY T6
  generalize grow (redrawn w6 dq) osq = w7 at *
  go_wp2_with fail
  refine (decode_back o d a b n _ (HT.out.below T7.out.bel) hr).mono ?_
  rintro e w8 ⟨rfl, hb8⟩
  have T8 : Hid (Two w o d a b n o d a' b' n' (w8.alloc (.cells #[.int .i64 o, .int .i64 d, .int .i64 a, .int .i64 b, .int .i64 n] 23))) := (T7.out.below hb8).alloc _
  have T9 : Hid (Two w o d a b n o d a' b' n' w8) := T7.out.below hb8
  clear hb8 T7
  obtain ⟨s0, s1, s2, s3, s4, s5, s6, s7, s8, s9, s10, s11⟩ := T9.out
  have hz8 : w.heap.size < w8.heap.size := by omega
  clear s1 s7 s8 s9 s10 s11 s0
  go_wp2
  go_ret
  exact ⟨rfl, T8.out.bel⟩
set_option maxRecDepth 100000 in
set_option maxHeartbeats 1000000 in
theorem back_H_NE3 (o d a b n b' n' x : Int) (w : World) (ht : Tabs T w) (hx0 : 0 ≤ x) (hx1 : x < 4294967296) (hn : ¬ NoOp x) (hr : Rt o d a b n = true) (hr' : Rt o d a b' n' = true) (hne : ¬ b = b') :
    Calls Tryd.prog 4 #[instV o d a b n, instV o d a b' n', .int .u32 x] w fun e w' => e = .returned (.bool true) ∧ Below w.heap.size w w' := by
  have HT : Hid (Tabs T w) := ht
  have HN : Hid (¬ NoOp x) := hn
  clear ht hn
  have T0 : Hid (Two w o d a b n o d a b' n' _) := Two.begin w o d a b n o d a b' n'
  go_enter Tryd.func4, Tryd.ntmps4
  go_wp2_with fail
  refine (worded_T _ (HT.out.below T0.out.bel)).mono ?_
  rintro e w1 ⟨rfl, hb1⟩
  have T1 : Hid (Two w o d a b n o d a b' n' w1) := T0.out.below hb1
  clear hb1 T0
  go_wp2_with fail
  obtain ⟨p, q, r, s, u, hz, hw, hd⟩ := decode_some x hx0 hx1 HN.out
  have HZ : Hid (Wd p q r s u = x) := hw
  have HD : Hid (∀ w, Tabs T w → Calls Tryd.prog 12 #[.int .u32 x] w fun e w' => e = .returned (.tuple #[instV p q r s u, .nilIface]) ∧ Below w.heap.size w w') := hd
  clear hw hd
  refine (HD.out _ (HT.out.below T1.out.bel)).mono ?_
  rintro e w2 ⟨rfl, hb2⟩
  have T2 : Hid (Two w o d a b n o d a b' n' (w2.alloc (.cells #[.int .i64 p, .int .i64 q, .int .i64 r, .int .i64 s, .int .i64 u] 23))) := (T1.out.below hb2).alloc _
  clear hb2 T1
  go_wp2_with fail
  have HE := encode_ok p q r s u _ (HT.out.below T2.out.bel) hz
  rw [HZ.out] at HE
  refine HE.mono ?_
  clear HE
  rintro e w3 ⟨rfl, hb3⟩
  obtain ⟨v0, v1, v2, v3, v4⟩ := box5 hb3
  have T3 : Hid (Two w o d a b n o d a b' n' w3) := T2.out.below hb3
  clear hb3 T2
  go_wp2_with fail
  have HE := right_T p q r s u _ (HT.out.below T3.out.bel)
  rw [hz] at HE
  refine HE.mono ?_
  clear HE
  rintro e w4 ⟨rfl, hb4⟩
  have T4 : Hid (Two w o d a b n o d a b' n' w4) := T3.out.below hb4
  clear hb4 T3 v0 v1 v2 v3 v4
  obtain ⟨s0, s1, s2, s3, s4, s5, s6, s7, s8, s9, s10, s11⟩ := T4.out
  clear s1
  go_wp2_with fail
  refine (encode_ok o d a b n _ (HT.out.below T4.out.bel) hr).mono ?_
  rintro e w5 ⟨rfl, hb5⟩
  have T5 : Hid (Two w o d a b n o d a b' n' w5) := T4.out.below hb5
  clear hb5 T4 s0 s2 s3 s4 s5 s6 s7 s8 s9 s10 s11
  obtain ⟨s0, s1, s2, s3, s4, s5, s6, s7, s8, s9, s10, s11⟩ := T5.out
  clear s1
  go_wp2_with fail
  refine (encode_ok o d a b' n' _ (HT.out.below T5.out.bel) hr').mono ?_
  rintro e w6 ⟨rfl, hb6⟩
  have T6 : Hid (Two w o d a b n o d a b' n' w6) := T5.out.below hb6
  clear hb6 T5 s0 s2 s3 s4 s5 s6 s7 s8 s9 s10 s11
  go_wp2_with fail
  have k0 := cell_regrown T6.out.x0
  have k1 := cell_regrown T6.out.x1
  have k2 := cell_regrown T6.out.x2
  have k3 := cell_regrown T6.out.x3
  have k4 := cell_regrown T6.out.x4
  have l0 := cell_regrown T6.out.y0
  have l1 := cell_regrown T6.out.y1
  have l2 := cell_regrown T6.out.y2
  have l3 := cell_regrown T6.out.y3
  have l4 := cell_regrown T6.out.y4
  have CX : Hid (∀ d1 os, Calls Tryd.prog 9 #[.agg #[.int .i64 o, .int .i64 d, .int .i64 a, .int .i64 b, .int .i64 n]] (grow (redrawn w6 d1) os) fun e w'' => e = .returned (.bool (Rt o d a b n)) ∧ ∃ p : Regrown, w'' = grow (redrawn w6 p.d) p.os) :=
    fun d1 os => Calls.regrown_of (right_T _ _ _ _ _ _ ((HT.out.below T6.out.bel).below (below_regrown w6 d1 os)))
  have CY : Hid (∀ d1 os, Calls Tryd.prog 9 #[.agg #[.int .i64 o, .int .i64 d, .int .i64 a, .int .i64 b', .int .i64 n']] (grow (redrawn w6 d1) os) fun e w'' => e = .returned (.bool (Rt o d a b' n')) ∧ ∃ p : Regrown, w'' = grow (redrawn w6 p.d) p.os) :=
    fun d1 os => Calls.regrown_of (right_T _ _ _ _ _ _ ((HT.out.below T6.out.bel).below (below_regrown w6 d1 os)))
  have hwne : (Wd o d a b n == Wd o d a b' n') = false := by
    simp only [beq_eq_false_iff_ne]
    exact fun h => hne (Wd_inj hr hr' h).2.2.2.1
  refine wp_region_quiet_below (by kernel_rfl) (by kernel_rfl) ?_
  iterate 3 (first | go_big_quiet_step (fail) | quiet_step (fail))
  first | go_big_quiet_step (exact CX.out _ _) | quiet_step (exact CX.out _ _)
  iterate 5 (first | go_big_quiet_step (fail) | quiet_step (fail))
  first | go_big_quiet_step (exact CY.out _ _) | quiet_step (exact CY.out _ _)
  repeat (first | go_big_quiet_step (fail) | quiet_step (fail))
  refine wpQuiet_nil ?_
  intro _ hw'
  obtain ⟨⟨dq, osq⟩, hw''⟩ := hw'
  rw [hw'']
  have T7 : Hid (Two w o d a b n o d a b' n' (grow (redrawn w6 dq) osq)) := T6.out.below (below_regrown w6 dq osq)
  clear hw'' k0 k1 k2 k3 k4 l0 l1 l2 l3 l4 CX CY T6
  generalize grow (redrawn w6 dq) osq = w7 at *
  go_wp2_with fail
  refine (decode_back o d a b n _ (HT.out.below T7.out.bel) hr).mono ?_
  rintro e w8 ⟨rfl, hb8⟩
  have T8 : Hid (Two w o d a b n o d a b' n' (w8.alloc (.cells #[.int .i64 o, .int .i64 d, .int .i64 a, .int .i64 b, .int .i64 n] 23))) := (T7.out.below hb8).alloc _
  have T9 : Hid (Two w o d a b n o d a b' n' w8) := T7.out.below hb8
  clear hb8 T7
  obtain ⟨s0, s1, s2, s3, s4, s5, s6, s7, s8, s9, s10, s11⟩ := T9.out
  have hz8 : w.heap.size < w8.heap.size := by omega
  clear s1 s7 s8 s9 s10 s11 s0
  go_wp2
  go_ret
  exact ⟨rfl, T8.out.bel⟩
set_option maxRecDepth 100000 in
set_option maxHeartbeats 1000000 in
theorem back_H_NE4 (o d a b n n' x : Int) (w : World) (ht : Tabs T w) (hx0 : 0 ≤ x) (hx1 : x < 4294967296) (hn : ¬ NoOp x) (hr : Rt o d a b n = true) (hr' : Rt o d a b n' = true) (hne : ¬ n = n') :
    Calls Tryd.prog 4 #[instV o d a b n, instV o d a b n', .int .u32 x] w fun e w' => e = .returned (.bool true) ∧ Below w.heap.size w w' := by
  have HT : Hid (Tabs T w) := ht
  have HN : Hid (¬ NoOp x) := hn
  clear ht hn
  have T0 : Hid (Two w o d a b n o d a b n' _) := Two.begin w o d a b n o d a b n'
  go_enter Tryd.func4, Tryd.ntmps4
  go_wp2_with fail
  refine (worded_T _ (HT.out.below T0.out.bel)).mono ?_
  rintro e w1 ⟨rfl, hb1⟩
  have T1 : Hid (Two w o d a b n o d a b n' w1) := T0.out.below hb1
  clear hb1 T0
  go_wp2_with fail
  obtain ⟨p, q, r, s, u, hz, hw, hd⟩ := decode_some x hx0 hx1 HN.out
  have HZ : Hid (Wd p q r s u = x) := hw
  have HD : Hid (∀ w, Tabs T w → Calls Tryd.prog 12 #[.int .u32 x] w fun e w' => e = .returned (.tuple #[instV p q r s u, .nilIface]) ∧ Below w.heap.size w w') := hd
  clear hw hd
  refine (HD.out _ (HT.out.below T1.out.bel)).mono ?_
  rintro e w2 ⟨rfl, hb2⟩
  have T2 : Hid (Two w o d a b n o d a b n' (w2.alloc (.cells #[.int .i64 p, .int .i64 q, .int .i64 r, .int .i64 s, .int .i64 u] 23))) := (T1.out.below hb2).alloc _
  clear hb2 T1
  go_wp2_with fail
  have HE := encode_ok p q r s u _ (HT.out.below T2.out.bel) hz
  rw [HZ.out] at HE
  refine HE.mono ?_
  clear HE
  rintro e w3 ⟨rfl, hb3⟩
  obtain ⟨v0, v1, v2, v3, v4⟩ := box5 hb3
  have T3 : Hid (Two w o d a b n o d a b n' w3) := T2.out.below hb3
  clear hb3 T2
  go_wp2_with fail
  have HE := right_T p q r s u _ (HT.out.below T3.out.bel)
  rw [hz] at HE
  refine HE.mono ?_
  clear HE
  rintro e w4 ⟨rfl, hb4⟩
  have T4 : Hid (Two w o d a b n o d a b n' w4) := T3.out.below hb4
  clear hb4 T3 v0 v1 v2 v3 v4
  obtain ⟨s0, s1, s2, s3, s4, s5, s6, s7, s8, s9, s10, s11⟩ := T4.out
  clear s1
  go_wp2_with fail
  refine (encode_ok o d a b n _ (HT.out.below T4.out.bel) hr).mono ?_
  rintro e w5 ⟨rfl, hb5⟩
  have T5 : Hid (Two w o d a b n o d a b n' w5) := T4.out.below hb5
  clear hb5 T4 s0 s2 s3 s4 s5 s6 s7 s8 s9 s10 s11
  obtain ⟨s0, s1, s2, s3, s4, s5, s6, s7, s8, s9, s10, s11⟩ := T5.out
  clear s1
  go_wp2_with fail
  refine (encode_ok o d a b n' _ (HT.out.below T5.out.bel) hr').mono ?_
  rintro e w6 ⟨rfl, hb6⟩
  have T6 : Hid (Two w o d a b n o d a b n' w6) := T5.out.below hb6
  clear hb6 T5 s0 s2 s3 s4 s5 s6 s7 s8 s9 s10 s11
  go_wp2_with fail
  have k0 := cell_regrown T6.out.x0
  have k1 := cell_regrown T6.out.x1
  have k2 := cell_regrown T6.out.x2
  have k3 := cell_regrown T6.out.x3
  have k4 := cell_regrown T6.out.x4
  have l0 := cell_regrown T6.out.y0
  have l1 := cell_regrown T6.out.y1
  have l2 := cell_regrown T6.out.y2
  have l3 := cell_regrown T6.out.y3
  have l4 := cell_regrown T6.out.y4
  have CX : Hid (∀ d1 os, Calls Tryd.prog 9 #[.agg #[.int .i64 o, .int .i64 d, .int .i64 a, .int .i64 b, .int .i64 n]] (grow (redrawn w6 d1) os) fun e w'' => e = .returned (.bool (Rt o d a b n)) ∧ ∃ p : Regrown, w'' = grow (redrawn w6 p.d) p.os) :=
    fun d1 os => Calls.regrown_of (right_T _ _ _ _ _ _ ((HT.out.below T6.out.bel).below (below_regrown w6 d1 os)))
  have CY : Hid (∀ d1 os, Calls Tryd.prog 9 #[.agg #[.int .i64 o, .int .i64 d, .int .i64 a, .int .i64 b, .int .i64 n']] (grow (redrawn w6 d1) os) fun e w'' => e = .returned (.bool (Rt o d a b n')) ∧ ∃ p : Regrown, w'' = grow (redrawn w6 p.d) p.os) :=
    fun d1 os => Calls.regrown_of (right_T _ _ _ _ _ _ ((HT.out.below T6.out.bel).below (below_regrown w6 d1 os)))
  have hwne : (Wd o d a b n == Wd o d a b n') = false := by
    simp only [beq_eq_false_iff_ne]
    exact fun h => hne (Wd_inj hr hr' h).2.2.2.2
  refine wp_region_quiet_below (by kernel_rfl) (by kernel_rfl) ?_
  iterate 3 (first | go_big_quiet_step (fail) | quiet_step (fail))
  first | go_big_quiet_step (exact CX.out _ _) | quiet_step (exact CX.out _ _)
  iterate 5 (first | go_big_quiet_step (fail) | quiet_step (fail))
  first | go_big_quiet_step (exact CY.out _ _) | quiet_step (exact CY.out _ _)
  repeat (first | go_big_quiet_step (fail) | quiet_step (fail))
  refine wpQuiet_nil ?_
  intro _ hw'
  obtain ⟨⟨dq, osq⟩, hw''⟩ := hw'
  rw [hw'']
  have T7 : Hid (Two w o d a b n o d a b n' (grow (redrawn w6 dq) osq)) := T6.out.below (below_regrown w6 dq osq)
  clear hw'' k0 k1 k2 k3 k4 l0 l1 l2 l3 l4 CX CY T6
  generalize grow (redrawn w6 dq) osq = w7 at *
  go_wp2_with fail
  refine (decode_back o d a b n _ (HT.out.below T7.out.bel) hr).mono ?_
  rintro e w8 ⟨rfl, hb8⟩
  have T8 : Hid (Two w o d a b n o d a b n' (w8.alloc (.cells #[.int .i64 o, .int .i64 d, .int .i64 a, .int .i64 b, .int .i64 n] 23))) := (T7.out.below hb8).alloc _
  have T9 : Hid (Two w o d a b n o d a b n' w8) := T7.out.below hb8
  clear hb8 T7
  obtain ⟨s0, s1, s2, s3, s4, s5, s6, s7, s8, s9, s10, s11⟩ := T9.out
  have hz8 : w.heap.size < w8.heap.size := by omega
  clear s1 s7 s8 s9 s10 s11 s0
  go_wp2
  go_ret
  exact ⟨rfl, T8.out.bel⟩
end Go.Proofs.YtbnbkbccgojchaaDoor
