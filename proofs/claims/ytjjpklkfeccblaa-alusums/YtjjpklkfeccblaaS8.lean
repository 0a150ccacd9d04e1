/- For every two numbers of 64 bits and every n package machine's Alu keeps what AluSums asks: a number is its quotient as often and what is left, what is moved there and back, and, or, xor (no condition). The walk is our own; the rest is the guide's template at this function. -/
import Derived.Test.YtjjpklkfeccblaaS2
import Derived.Test.YtjjpklkfeccblaaS3
import Derived.Test.YtjjpklkfeccblaaS4
import Derived.Test.YtjjpklkfeccblaaS5
import Derived.Test.YtjjpklkfeccblaaS6
import Derived.Test.YtjjpklkfeccblaaS7
import Derived.WalkKit
import Derived.ProofKit
import Derived.OpenShut
namespace Go.Proofs.Ytjjpklkfeccblaa.aluSums
open Go Go.ChangeShapes Go.WideShapes Go.ChangeAt Go.RowKit
set_option linter.unusedVariables false

theorem own : ownKnob Try.prog.godebug = none := by kernel_rfl


theorem slt_ne (a b : Int) (h : a ≠ b) : wrap64 (aluV 9 a b + aluV 9 b a) = 1 := by
  rw [alu_slt, alu_slt]
  rcases Int.lt_or_gt_of_ne h with h | h
  · have h' : ¬ b < a := by omega
    simp [oneD, h, h', wrap64]
  · have h' : ¬ a < b := by omega
    simp [oneD, h, h', wrap64]
theorem slt_eq (a : Int) : aluV 9 a a = 0 := by
  rw [alu_slt]; simp [oneD]
theorem sra_neg (a k : Int) : decide (aluV 13 a k < 0) = decide (a < 0) := by
  rw [Bool.eq_iff_iff]; simp [sra_sign]
theorem sra_more' (a k : Int) : aluV 13 a (k + 64) = aluV 13 a k := by
  rw [alu_sra, alu_sra]
  have : (k + 64) % 64 = k % 64 := by omega
  rw [this]
theorem e1 : aluV 1 2 3 = 5 := by rw [alu_add]; unfold wrap64; decide
theorem e2 : aluV 4 (-7) 2 = -3 := by rw [alu_div _ _ (by omega)]; unfold wrap64; decide

/-! ### STEP 1: THE WALK: the Go text returns true. 'Grown w w'': the world has at most new blocks (Derived/RowKit3.lean). Part the cases AHEAD of 'go_enter' where a test parts the walk; take each callee by a contract of your own. -/
theorem walk (a0 : Int) (a1 : Int) (a2 : Int) (w0 : (Lit.int .i64 a0).wf = true) (w1 : (Lit.int .i64 a1).wf = true) (w2 : (Lit.int .i64 a2).wf = true) (w : World) :
    Calls Try.prog 4 #[.int .i64 a0, .int .i64 a1, .int .i64 a2] w fun e w' => e = .returned (.bool true) ∧ Grown w w' := by
  have r0 := i64_range w0
  have k0 : 0 ≤ a2 % 64 := by omega
  have k1 : a2 % 64 < 64 := by omega
  by_cases hb : a1 = 0
  · subst hb
    have hq : aluV 4 a0 0 = -1 := by simp [aluV, quoD]
    have hr : aluV 5 a0 0 = a0 := by simp [aluV, remD]
    by_cases ha : a0 = 0
    · subst ha
      have z1 : aluV 13 0 (a2 % 64) = 0 := by rw [alu_sra, Int.zero_ediv]
      have z2 : aluV 11 0 (a2 % 64) = 0 := by rw [alu_sll, Int.zero_mul]; unfold wrap64; decide
      have z3 : aluV 12 0 (a2 % 64) = 0 := by rw [alu_srl, Int.zero_emod, Int.zero_ediv]; unfold wrap64; decide
      have z4 := sh_back 0 (a2 % 64) k0 k1
      rw [z2, z3] at z4
      exact core11 a2 _ _ w e1 e2 hq hr (by rw [alu_add]; unfold wrap64; decide) (by rw [alu_sub]; unfold wrap64; decide) (slt_eq _) rfl z2 z3 rfl z4.symm z1 (by rw [sra_more', z1]) (by rw [alu_xor, xorN]; unfold wrap64; decide) (by rw [alu_and, andN]; unfold wrap64; decide) (by rw [alu_or, orN]; unfold wrap64; decide)
    · exact core10p a0 0 a2 0 0 _ _ _ _ _ _ _ _ _ _ _ w e1 e2 rfl (add_back a0 0 r0.1 r0.2) rfl rfl (slt_ne _ _ ha) (slt_eq _) rfl rfl rfl rfl (sh_back _ _ k0 k1).symm rfl (sra_more' _ _) (sra_neg _ _) rfl rfl rfl (sum_back _ _) (dif_back _ _) (xor_back _ _ r0.1 r0.2) hq hr ha
  · have hq := alu_div a0 a1 hb
    have hr := alu_rem a0 a1 hb
    have hb1 : aluV 1 (aluV 3 (aluV 4 a0 a1) a1) (aluV 5 a0 a1) = a0 := by
      rw [alu_add, alu_mul, hq, hr]; exact div_back a0 a1 r0.1 r0.2
    by_cases hs : aluV 5 a0 a1 = 0
    · rw [hs] at hb1
      by_cases he : a0 = a1
      · subst he
        exact core01z a0 a2 _ 0 _ _ _ _ _ _ _ _ _ w e1 e2 rfl (add_back a0 a0 r0.1 r0.2) (slt_eq _) rfl rfl rfl rfl (sh_back _ _ k0 k1).symm rfl (sra_more' _ _) (sra_neg _ _) rfl rfl rfl (sum_back _ _) (dif_back _ _) (xor_back _ _ r0.1 r0.2) rfl hs hb hb1
      · exact core01p a0 a1 a2 _ 0 _ _ _ _ _ _ _ _ _ _ _ w e1 e2 rfl (add_back a0 a1 r0.1 r0.2) rfl rfl (slt_ne _ _ he) (slt_eq _) rfl rfl rfl rfl (sh_back _ _ k0 k1).symm rfl (sra_more' _ _) (sra_neg _ _) rfl rfl rfl (sum_back _ _) (dif_back _ _) (xor_back _ _ r0.1 r0.2) rfl hs hb hb1
    · have hs2 : decide (aluV 5 a0 a1 < 0) = decide (a0 < 0) := by
        rw [hr] at hs ⊢
        rw [Bool.eq_iff_iff]; simp [tmod_sign a0 a1 hs]
      by_cases he : a0 = a1
      · subst he
        exact core00z a0 a2 _ _ _ _ _ _ _ _ _ _ _ w e1 e2 rfl (add_back a0 a0 r0.1 r0.2) (slt_eq _) rfl rfl rfl rfl (sh_back _ _ k0 k1).symm rfl (sra_more' _ _) (sra_neg _ _) rfl rfl rfl (sum_back _ _) (dif_back _ _) (xor_back _ _ r0.1 r0.2) rfl rfl hb hb1 hs hs2
      · exact core00p a0 a1 a2 _ _ _ _ _ _ _ _ _ _ _ _ _ w e1 e2 rfl (add_back a0 a1 r0.1 r0.2) rfl rfl (slt_ne _ _ he) (slt_eq _) rfl rfl rfl rfl (sh_back _ _ k0 k1).symm rfl (sra_more' _ _) (sra_neg _ _) rfl rfl rfl (sum_back _ _) (dif_back _ _) (xor_back _ _ r0.1 r0.2) rfl rfl hb hb1 hs hs2

/-! ### THE ROW's STEP: WRITTEN OUT: LEAVE IT -/
set_option maxRecDepth 100000 in
theorem lifted (os : Os) (started : os.Started) (H : Type) (enc : TypeId × Value → H) :
    ReturnsInHanded {} Try.checked os 4 .any (Rows.aluSumsSpec.pre6 enc Try.prog Try.f4 Rows.aluSumsRow.domain false) (Rows.aluSumsSpec.post enc Try.prog Try.f4 false true false false) := by
  refine returnsInHanded_of_change (C := Try.checked) own started (by kernel_rfl) Try.func4
    (ChangeSpec.witness6 (enc := enc) (C := Try.checked) false ⟨#[], #[.int .i64 0, .int .i64 0, .int .i64 0], []⟩ 8 (by kernel_rfl) (by kernel_rfl) (by kernel_rfl) (by kernel_rfl)) ?_
  intro W base args ds gs before hval0 hW hcnd _
  have hval : ∀ (j : Nat) t v, Try.f4.params[j]? = some t → args[j]? = some v → Value.okWide Try.prog W .any base t v := hval0
  have hW' := hW
  obtain ⟨p, q, hA0, hV, rfl, hfz, hnd⟩ := hW
  have hA : DataW.TrodAll enc Try.prog W 0 (fun _ => true) true Try.f4.params.toList args.toList ds p := hA0
  rw [Try.params4] at hA hval
  obtain ⟨v0, vs0, d0, ds0, p0, q0, hargs, rfl, rfl, h0, r0⟩ := trodAll_cons hA
  obtain ⟨v1, vs1, d1, ds1, p1, q1, rfl, rfl, rfl, h1, r1⟩ := trodAll_cons r0
  obtain ⟨v2, vs2, d2, ds2, p2, q2, rfl, rfl, rfl, h2, r2⟩ := trodAll_cons r1
  obtain ⟨rfl, rfl, rfl⟩ := trodAll_nil r2
  obtain rfl : args = #[v0, v1, v2] := by cases args; simp_all
  obtain ⟨rfl, rfl⟩ := trodVars_none hV
  obtain ⟨a0, rfl, rfl, rfl, w0⟩ := open_int Try.underlying2 (hval 0 2 v0 rfl rfl) h0
  obtain ⟨a1, rfl, rfl, rfl, w1⟩ := open_int Try.underlying2 (hval 1 2 v1 rfl rfl) h1
  obtain ⟨a2, rfl, rfl, rfl, w2⟩ := open_int Try.underlying3 (hval 2 3 v2 rfl rfl) h2
  clear hA0 hval0
  simp only [List.append_nil] at hW'
  refine (walk a0 a1 a2 w0 w1 w2 W).mono fun e W' ⟨he, hg⟩ => ?_
  subst he
  exact ⟨_, rfl, post_of_same (pa := []) (pv := []) hW' (fun _ _ _ => (trodAll_cons_mk (shut_bool Try.underlying4 _) trodAll_mk0)) (fun sp _ => (trodAll_cons_mk (shut_int Try.underlying2 w0) (trodAll_cons_mk (shut_int Try.underlying2 w1) (trodAll_cons_mk (shut_int Try.underlying3 w2) trodAll_mk0)))) (fun _ _ => rfl) rfl
    (hg.frame _) hg.2.1 (ok_one (by kernel_rfl) rfl (okWide_bool_mk Try.underlying4 _))⟩

theorem over : Rows.aluSumsRow.holds Try.pinned (OpenSpec.ofChange Rows.aluSumsSpec) :=
  OpenClaim.holds_of_wide 4 Try.f4 rfl rfl rfl rfl rfl rfl rfl ⟨rfl, rfl, rfl, rfl, rfl⟩ rfl rfl rfl rfl rfl (by kernel_rfl) Try.func4 (by kernel_rfl)
    (of_decide_eq_true (by kernel_rfl)) (by unfold Func.isWrapper; first | (rw [if_pos (by decide +kernel)]; kernel_rfl) | (rw [if_neg (by decide +kernel)]; exact ⟨rfl, rfl⟩))
    (fun os started H enc _ => lifted os started H enc)

/-- ████ THE STATEMENT ████ -/
theorem proved : Rows.AluSumsSaid :=
  over
end Go.Proofs.Ytjjpklkfeccblaa.aluSums
namespace Go.Proofs.Ytjjpklkfeccblaa
theorem aluSums_holds : Rows.AluSumsSaid := aluSums.proved
#print axioms aluSums_holds
end Go.Proofs.Ytjjpklkfeccblaa
