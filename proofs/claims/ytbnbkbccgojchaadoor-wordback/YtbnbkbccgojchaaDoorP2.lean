/- WordBack is true at every two instructions and every word, and leaves its arguments as they were, in whatever memory holds the two tables of package word as the program lays them: the row, and its tied card. -/
import Derived.Test.YtbnbkbccgojchaaDoorP0
import Derived.Test.YtbnbkbccgojchaaDoorD3
import Derived.Test.YtbnbkbccgojchaaDoorD4
import Derived.Test.YtbnbkbccgojchaaDoorD5
import Derived.Test.YtbnbkbccgojchaaDoorD6
import Derived.Test.YtbnbkbccgojchaaDoorD7
import Derived.Test.YtbnbkbccgojchaaDoorD8
import Derived.Test.YtbnbkbccgojchaaDoorTie
import Derived.Test.YtbnbkbccgojchaaDoorCards
import Derived.SevenTiedAt
namespace Go.Proofs.YtbnbkbccgojchaaDoor
open Go Go.ChangeShapes Go.WideShapes Go.ChangeAt Go.WideMaps Go.WideElems Go.RowKit

/-- WordBack: true at all arguments; nothing that was there has turned. -/
theorem back_all (o d a b n o' d' a' b' n' x : Int) (w : World) (ht : Tabs T w) (hx0 : 0 ≤ x) (hx1 : x < 4294967296) :
    Calls Tryd.prog 4 #[instV o d a b n, instV o' d' a' b' n', .int .u32 x] w fun e w' => e = .returned (.bool true) ∧ Below w.heap.size w w' := by
  by_cases hn : NoOp x
  · cases hr : Rt o d a b n with
    | false =>
      cases hr' : Rt o' d' a' b' n' with
      | false => exact back_N_LL o d a b n o' d' a' b' n' x w ht hx0 hx1 hn hr hr'
      | true => exact back_N_LR o d a b n o' d' a' b' n' x w ht hx0 hx1 hn hr hr'
    | true =>
      cases hr' : Rt o' d' a' b' n' with
      | false => exact back_N_RL o d a b n o' d' a' b' n' x w ht hx0 hx1 hn hr hr'
      | true =>
        by_cases e0 : o = o'
        · subst e0
          by_cases e1 : d = d'
          · subst e1
            by_cases e2 : a = a'
            · subst e2
              by_cases e3 : b = b'
              · subst e3
                by_cases e4 : n = n'
                · subst e4
                  exact back_N_EE o d a b n x w ht hx0 hx1 hn hr
                · exact back_N_NE4 o d a b n n' x w ht hx0 hx1 hn hr hr' e4
              · exact back_N_NE3 o d a b n b' n' x w ht hx0 hx1 hn hr hr' e3
            · exact back_N_NE2 o d a b n a' b' n' x w ht hx0 hx1 hn hr hr' e2
          · exact back_N_NE1 o d a b n d' a' b' n' x w ht hx0 hx1 hn hr hr' e1
        · exact back_N_NE0 o d a b n o' d' a' b' n' x w ht hx0 hx1 hn hr hr' e0
  · cases hr : Rt o d a b n with
    | false =>
      cases hr' : Rt o' d' a' b' n' with
      | false => exact back_H_LL o d a b n o' d' a' b' n' x w ht hx0 hx1 hn hr hr'
      | true => exact back_H_LR o d a b n o' d' a' b' n' x w ht hx0 hx1 hn hr hr'
    | true =>
      cases hr' : Rt o' d' a' b' n' with
      | false => exact back_H_RL o d a b n o' d' a' b' n' x w ht hx0 hx1 hn hr hr'
      | true =>
        by_cases e0 : o = o'
        · subst e0
          by_cases e1 : d = d'
          · subst e1
            by_cases e2 : a = a'
            · subst e2
              by_cases e3 : b = b'
              · subst e3
                by_cases e4 : n = n'
                · subst e4
                  exact back_H_EE o d a b n x w ht hx0 hx1 hn hr
                · exact back_H_NE4 o d a b n n' x w ht hx0 hx1 hn hr hr' e4
              · exact back_H_NE3 o d a b n b' n' x w ht hx0 hx1 hn hr hr' e3
            · exact back_H_NE2 o d a b n a' b' n' x w ht hx0 hx1 hn hr hr' e2
          · exact back_H_NE1 o d a b n d' a' b' n' x w ht hx0 hx1 hn hr hr' e1
        · exact back_H_NE0 o d a b n o' d' a' b' n' x w ht hx0 hx1 hn hr hr' e0

theorem u32_range {x : Int} (h : (Lit.int .u32 x).wf = true) : 0 ≤ x ∧ x < 4294967296 := by
  simp only [Lit.wf, IntKind.min, IntKind.max, IntKind.signed, IntKind.bits, Bool.and_eq_true] at h
  simp at h
  omega

set_option maxRecDepth 100000 in
theorem back_lifted (os : Os) (started : os.Started) (H : Type) (enc : TypeId × Value → H) :
    ReturnsInHanded {} Tryd.checked os 4 .any (fun w args => (Rows.wordBackSpec.pre enc Tryd.prog Tryd.f4 [] false w args ∧ laidMetH Tryd.prog laid2 w) ∧ sizedMet enc Tryd.prog Tryd.f4 (OpenSpec.ofChange Rows.wordBackSpec) false w args)
      (Rows.wordBackSpec.post enc Tryd.prog Tryd.f4 false true false false) := by
  refine returnsInHanded_of_change_and (C := Tryd.checked) (X := fun w _ => laidMetH Tryd.prog laid2 w) (fun _ _ _ hh h => h.of_heap hh) own started (by kernel_rfl) Tryd.func4
    (ChangeSpec.witness_shaped (enc := enc) (C := Tryd.checked) (os := os) (X := fun w _ => laidMetH Tryd.prog laid2 w) false (World.doorLaid Tryd.prog 84 os) #[.agg #[.int .i64 0, .int .i64 0, .int .i64 0, .int .i64 0, .int .i64 0], .agg #[.int .i64 0, .int .i64 0, .int .i64 0, .int .i64 0, .int .i64 0], .int .u32 0] 8 rfl (World.shaped_of_RefB (by kernel_rfl) (by kernel_rfl)) (by kernel_rfl) (by kernel_rfl) (by kernel_rfl) (door_met2 os _)) ?_
  intro W base args ds gs before hval0 hW _ _ hL _
  have hval : ∀ (j : Nat) t v, Tryd.f4.params[j]? = some t → args[j]? = some v → Value.okWide Tryd.prog W .any base t v := hval0
  have hW' := hW
  obtain ⟨p, q, hA0, hV, rfl, hfz, hnd⟩ := hW
  have hA : DataW.TrodAll enc Tryd.prog W 0 (fun _ => true) true Tryd.f4.params.toList args.toList ds p := hA0
  rw [Tryd.params4] at hA hval
  obtain ⟨v0, v1, v2, d0, d1, d2, p0, p1, p2, rfl, rfl, rfl, h0, h1, h2⟩ := trodAll_three hA
  obtain ⟨rfl, rfl⟩ := trodVars_none hV
  have lt0 : ∀ x ∈ p0, x.block < W.heap.size := by obtain ⟨m, hm⟩ := h0; exact DataW.trod_lt m _ _ _ hm
  have lt1 : ∀ x ∈ p1, x.block < W.heap.size := by obtain ⟨m, hm⟩ := h1; exact DataW.trod_lt m _ _ _ hm
  have k0 := h0
  have k1 := h1
  obtain ⟨o, d, a, b, n, rfl⟩ := open_inst (hval 0 23 v0 rfl rfl) h0
  obtain ⟨o', d', a', b', n', rfl⟩ := open_inst (hval 1 23 v1 rfl rfl) h1
  obtain ⟨x, rfl, rfl, rfl, wx⟩ := open_int Tryd.underlying24 (hval 2 24 v2 rfl rfl) h2
  clear hA0 hval0
  refine (back_all o d a b n o' d' a' b' n' x W (tabs_of_laid2 hL) (u32_range wx).1 (u32_range wx).2).mono fun e W' ⟨he, bel⟩ => ?_
  subst he
  exact ⟨_, rfl, _, _, _, [], _, [], hW', trodAll_mk1 (shut_bool Tryd.underlying4 _), (trodAll_cons_mk (Below.trod laidOut (by kernel_rfl) (of_decide_eq_true (by kernel_rfl)) k0 bel lt0) (trodAll_cons_mk (Below.trod laidOut (by kernel_rfl) (of_decide_eq_true (by kernel_rfl)) k1 bel lt1) (trodAll_cons_mk (shut_int Tryd.underlying24 wx) trodAll_mk0))), rfl, bel.frame _, fun h => by cases h⟩

theorem back_row : Rows.WordBackSaid :=
  OpenClaim.holds_of_wide 4 Tryd.f4 rfl rfl rfl rfl rfl rfl rfl ⟨rfl, rfl, rfl, rfl, rfl⟩ rfl rfl rfl rfl rfl (by kernel_rfl) Tryd.func4 (by kernel_rfl)
    (of_decide_eq_true (by kernel_rfl)) (by unfold Func.isWrapper; first | (rw [if_pos (by decide +kernel)]; kernel_rfl) | (rw [if_neg (by decide +kernel)]; exact ⟨rfl, rfl⟩))
    (fun os started H enc _ => back_lifted os started H enc)

theorem wordBack_holds : Rows.WordBackCardSaid :=
  Claim7.holds_tied_plain_at .later [] [.data, .data] true (true, "486b895ae626aba1f13229e1142728aeef093eddfcc3cb1723b32927e7cb8eb1") true
    back_row (fun _ h => by cases h) (by kernel_rfl) (fun _ h => by cases h) wordBack_row_tie rfl ⟨rfl, rfl⟩ (by kernel_rfl) rfl
    (fun f fn hf hfn => by
      obtain rfl : f = 4 := Option.some.inj ((show Tryd.prog.funcNamed "bloomery/bloomerykeep.WordBack" = some 4 by kernel_rfl).symm.trans hf) |>.symm
      obtain rfl : fn = Tryd.f4 := (Option.some.inj (Tryd.func4.symm.trans hfn)).symm
      exact ⟨by kernel_rfl, fun j t ht => by
        rw [Tryd.params4] at ht
        have hm : t ∈ [23, 23, 24] := by simpa using Array.mem_of_getElem? ht
        have hall : ([23, 23, 24].all fun u => !Tryd.prog.wantsStandIn u) = true := by kernel_rfl
        exact (show Tryd.prog.wantsStandIn t = false by simpa using List.all_eq_true.1 hall t hm)⟩)
    (by kernel_rfl)
#print axioms wordBack_holds
end Go.Proofs.YtbnbkbccgojchaaDoor
