/- For every two numbers: by package emit's Plan code, roots, both spaces and the stack lie one behind the other, both spaces are alike, all begin at multiples of eight (no condition). The walk is our own; the rest is the guide's shell. -/
import Derived.Test.YtpogmckfemhkpaaRows
import Derived.Test.YtpogmckfemhkpaaE1
import Derived.Deep.RegionHeld3
import Derived.Deep.DeepCutAuto
import Derived.WalkKit
import Derived.ProofKit
import Derived.OpenShut
namespace Go.Proofs.Ytpogmckfemhkpaa.emitApart
open Go Go.ChangeShapes Go.WideShapes Go.ChangeAt Go.RowKit
set_option linter.unusedVariables false      -- a walk need not use every 'w<i>' (that an integer argument fits its kind)

theorem own : ownKnob Try.prog.godebug = none := by kernel_rfl

/-! ### STEP 1: THE WALK: the Go text returns true. 'Grown w w'': the world has at most new blocks (Derived/RowKit3.lean). Part the cases AHEAD of 'go_enter' where a test parts the walk; take each callee by a contract of your own. -/
theorem pick_any (a n : Int) (n0 : 0 < n) (n1 : n < 4294967296) (w : World) : Calls Try.prog 8 #[.int .i64 a, .int .i64 n] w fun e w' => ∃ x, 0 ≤ x ∧ x < n ∧ e = .returned (.int .i64 x) ∧ w' = w := by
  go_enter Try.func8, Try.ntmps8
  go_wp2
  go_ret
  have h1 : 0 ≤ IntKind.u64.wrap a := by simp [IntKind.wrap, IntKind.bits, IntKind.signed]; omega
  have h2 : (IntKind.u64.wrap a).tmod n = IntKind.u64.wrap a % n := Int.tmod_eq_emod_of_nonneg h1
  have h3 : 0 ≤ IntKind.u64.wrap a % n := Int.emod_nonneg _ (by omega)
  have h4 : IntKind.u64.wrap a % n < n := Int.emod_lt_of_pos _ n0
  refine ⟨IntKind.u64.wrap a % n, h3, h4, ?_, rfl⟩
  show Ending.returned (.int .i64 (wrap64 ((IntKind.u64.wrap a).tmod n))) = _
  rw [h2, wr (by omega) (by omega)]
theorem planned_any (w : World) : Calls Try.prog 7 #[] w fun e w' => e = .returned (.bool true) ∧ Grown w w' := by
  have HA : Hid (∀ w, Calls Try.prog 5 #[.int .i64 10, .int .i64 1040] w fun e w' => e = .returned (planV 10 1040) ∧ Grown w w') := fun w => plan_any 10 1040 (by omega) (by omega) (by omega) (by omega) w
  have e : planV 10 1040 = .agg #[.int .i64 40, .int .i64 40, .int .i64 160, .int .i64 472, .int .i64 792, .int .i64 1040] := by
    have e1 : codeV 10 = 40 := by decide
    have e2 : rootV 10 1040 = 120 := by decide
    have e3 : stackV 10 1040 = 248 := by decide
    have e4 : halfV 10 1040 = 312 := by decide
    unfold planV; rw [e1, e2, e3, e4]; rfl
  rw [e] at HA
  clear e
  go_enter Try.func7, Try.ntmps7
  go_wp2_with (go_at_call 5; refine (HA.get _).mono ?_; rintro e wa ⟨rfl, ga⟩)
  go_ret
  exact ⟨rfl, ga⟩
/-- What is asked of where all lies. -/
theorem plan_facts (a b : Int) (a0 : 0 ≤ a) (a1 : a ≤ 1048576) (b0 : 0 ≤ b) (b1 : b ≤ 1048576) (w : World) :
    Calls Try.prog 5 #[.int .i64 a, .int .i64 b] w fun e w' => ∃ c k o f, (4 * a ≤ c ∧ c ≤ 4 * a + 7 ∧ Hid (c % 8 = 0) ∧ (4 * a + 7 ≤ b → c ≤ k ∧ k ≤ o ∧ o + (o - k) ≤ f ∧ f ≤ b ∧ Hid (k % 8 = 0 ∧ o % 8 = 0 ∧ (b % 8 = 0 → f % 8 = 0)))) ∧
      e = .returned (.agg #[.int .i64 c, .int .i64 c, .int .i64 k, .int .i64 o, .int .i64 f, .int .i64 b]) ∧ Grown w w' := by
  refine (plan_any a b a0 a1 b0 b1 w).mono ?_
  rintro e w' ⟨rfl, g⟩
  refine ⟨_, _, _, _, ?_, rfl, g⟩
  have hc : codeV a ≤ 4 * a + 7 ∧ 4 * a + 7 < codeV a + 8 ∧ codeV a % 8 = 0 := cut_b
  have hr : rootV a b ≤ restV a b / 8 ∧ restV a b / 8 < rootV a b + 8 ∧ rootV a b % 8 = 0 := cut_b
  have hs : stackV a b ≤ restV a b / 4 ∧ restV a b / 4 < stackV a b + 8 ∧ stackV a b % 8 = 0 := cut_b
  have hh : halfV a b ≤ (restV a b - rootV a b - stackV a b) / 2 ∧ (restV a b - rootV a b - stackV a b) / 2 < halfV a b + 8 ∧ halfV a b % 8 = 0 := cut_b
  have h0 : 0 ≤ restV a b := by unfold restV; omega
  have hn : 0 ≤ rootV a b ∧ 0 ≤ stackV a b := by unfold rootV stackV cutV; omega
  have hm : 0 ≤ halfV a b := by unfold halfV cutV; omega
  refine ⟨by omega, by omega, hc.2.2, fun hb => ?_⟩
  have hb' : restV a b = b - codeV a := by unfold restV; omega
  refine ⟨by omega, by omega, by omega, by omega, by omega, by omega, fun _ => by omega⟩
set_option maxHeartbeats 4000000 in
theorem walk (a0 : Int) (a1 : Int) (w0 : (Lit.int .i64 a0).wf = true) (w1 : (Lit.int .i64 a1).wf = true) (w : World) :
    Calls Try.prog 4 #[.int .i64 a0, .int .i64 a1] w fun e w' => e = .returned (.bool true) ∧ Grown w w' := by
  go_enter Try.func4, Try.ntmps4
  go_upto_if 23 with (first | (go_at_call 7; refine (planned_any _).mono ?_; rintro e wp ⟨rfl, gp⟩) | (go_at_call 8; refine (pick_any _ _ (by decide) (by decide) _).mono ?_; rintro e w' ⟨x, x0, x1, rfl, rfl⟩) | (go_at_call 5; refine (plan_facts _ _ (by omega) (by omega) (by omega) (by omega) _).mono ?_; rintro e wa ⟨c, k, o, f, HP, rfl, ga⟩))
  rename_i y y0 y1 _ _
  obtain ⟨p1, p2, p3, p4⟩ := HP
  by_cases hb : 8 * x < 4 * y + 7
  · have d1 : decide (8 * x < 4 * y + 7) = true := by simpa using hb
    have d2 : decide (4 * y ≤ c) = true := by simpa using p1
    clear p4
    go_wp2_with fail
    go_ret
    refine ⟨?_, ?_⟩
    · rfl
    · exact (grown_trans gp ga).alloc _ _
  · have d1 : decide (8 * x < 4 * y + 7) = false := by simpa using hb
    obtain ⟨q1, q2, q3, q4, q5⟩ := p4 (by omega)
    clear p4
    have c0 : 0 ≤ c := by omega
    have k0 : 0 ≤ k := by omega
    have o0 : 0 ≤ o := by omega
    have f0 : 0 ≤ f := by omega
    have f1 : f ≤ 65536 := by omega
    have t1 : decide (4 * y ≤ c) = true := by simpa using p1
    have t2 : decide (c ≤ k) = true := by simpa using q1
    have t3 : decide (k ≤ o) = true := by simpa using q2
    have t4 : decide (o + (o - k) ≤ f) = true := by simpa using q3
    have t5 : decide (f ≤ 8 * x) = true := by simpa using q4
    have m1 : Hid (c % 8 = 0) := p3
    have m2 : Hid (k % 8 = 0) := q5.get.1
    have m3 : Hid (o % 8 = 0) := q5.get.2.1
    have m4 : Hid (f % 8 = 0) := q5.get.2.2 (by omega)
    clear p3 q5
    go_wp2_with fail
    go_loop [47, 7] (fun i _ => ∃ j : Nat, j ≤ 5 ∧ i = .int .i64 j) (fun i _ => 5 - (intOf i).toNat)
    case atStart => exact ⟨0, by omega, rfl⟩
    case round =>
      obtain ⟨j, hj, rfl⟩ := hrel
      obtain rfl | rfl | rfl | rfl | rfl | rfl : j = 0 ∨ j = 1 ∨ j = 2 ∨ j = 3 ∨ j = 4 ∨ j = 5 := by omega
      all_goals go_wp2_with fail
      all_goals first
        | exact ⟨⟨1, by omega, rfl⟩, by decide⟩
        | exact ⟨⟨2, by omega, rfl⟩, by decide⟩
        | exact ⟨⟨3, by omega, rfl⟩, by decide⟩
        | exact ⟨⟨4, by omega, rfl⟩, by decide⟩
        | exact ⟨⟨5, by omega, rfl⟩, by decide⟩
        | (exfalso; have n1 := m1.get; have n2 := m2.get; have n3 := m3.get; have n4 := m4.get; clear w0 w1 gp ga; simp_all; done)
        | skip
      go_ret
      refine ⟨?_, ?_⟩
      · rfl
      · exact ((grown_trans gp ga).alloc _ _).alloc _ _

/-! ### THE ROW's STEP: WRITTEN OUT: LEAVE IT -/
set_option maxRecDepth 100000 in
theorem lifted (os : Os) (started : os.Started) (H : Type) (enc : TypeId × Value → H) :
    ReturnsInHanded {} Try.checked os 4 .any (Rows.emitApartSpec.pre6 enc Try.prog Try.f4 Rows.emitApartRow.domain false) (Rows.emitApartSpec.post enc Try.prog Try.f4 false true false false) := by
  refine returnsInHanded_of_change (C := Try.checked) own started (by kernel_rfl) Try.func4
    (ChangeSpec.witness6 (enc := enc) (C := Try.checked) false ⟨#[], #[.int .i64 0, .int .i64 0], []⟩ 8 (by kernel_rfl) (by kernel_rfl) (by kernel_rfl) (by kernel_rfl)) ?_
  intro W base args ds gs before hval0 hW hcnd _
  have hval : ∀ (j : Nat) t v, Try.f4.params[j]? = some t → args[j]? = some v → Value.okWide Try.prog W .any base t v := hval0
  have hW' := hW
  obtain ⟨p, q, hA0, hV, rfl, hfz, hnd⟩ := hW
  have hA : DataW.TrodAll enc Try.prog W 0 (fun _ => true) true Try.f4.params.toList args.toList ds p := hA0
  rw [Try.params4] at hA hval
  obtain ⟨v0, vs0, d0, ds0, p0, q0, hargs, rfl, rfl, h0, r0⟩ := trodAll_cons hA
  obtain ⟨v1, vs1, d1, ds1, p1, q1, rfl, rfl, rfl, h1, r1⟩ := trodAll_cons r0
  obtain ⟨rfl, rfl, rfl⟩ := trodAll_nil r1
  obtain rfl : args = #[v0, v1] := by cases args; simp_all
  obtain ⟨rfl, rfl⟩ := trodVars_none hV
  obtain ⟨a0, rfl, rfl, rfl, w0⟩ := open_int Try.underlying3 (hval 0 3 v0 rfl rfl) h0
  obtain ⟨a1, rfl, rfl, rfl, w1⟩ := open_int Try.underlying3 (hval 1 3 v1 rfl rfl) h1
  clear hA0 hval0
  simp only [List.append_nil] at hW'
  refine (walk a0 a1 w0 w1 W).mono fun e W' ⟨he, hg⟩ => ?_
  subst he
  exact ⟨_, rfl, post_of_same (pa := []) (pv := []) hW' (fun _ _ _ => (trodAll_cons_mk (shut_bool Try.underlying4 _) trodAll_mk0)) (fun sp _ => (trodAll_cons_mk (shut_int Try.underlying3 w0) (trodAll_cons_mk (shut_int Try.underlying3 w1) trodAll_mk0))) (fun _ _ => rfl) rfl
    (hg.frame _) hg.2.1 (ok_one (by kernel_rfl) rfl (okWide_bool_mk Try.underlying4 _))⟩

theorem over : Rows.emitApartRow.holds Try.pinned (OpenSpec.ofChange Rows.emitApartSpec) :=
  OpenClaim.holds_of_wide 4 Try.f4 rfl rfl rfl rfl rfl rfl rfl ⟨rfl, rfl, rfl, rfl, rfl⟩ rfl rfl rfl rfl rfl (by kernel_rfl) Try.func4 (by kernel_rfl)
    (of_decide_eq_true (by kernel_rfl)) (by unfold Func.isWrapper; first | (rw [if_pos (by decide +kernel)]; kernel_rfl) | (rw [if_neg (by decide +kernel)]; exact ⟨rfl, rfl⟩))
    (fun os started H enc _ => lifted os started H enc)

/-- ████ THE STATEMENT ████ -/
theorem proved : Rows.EmitApartSaid :=
  over
end Go.Proofs.Ytpogmckfemhkpaa.emitApart
namespace Go.Proofs.Ytpogmckfemhkpaa
theorem emitApart_holds : Rows.EmitApartSaid := emitApart.proved
#print axioms emitApart_holds
end Go.Proofs.Ytpogmckfemhkpaa
