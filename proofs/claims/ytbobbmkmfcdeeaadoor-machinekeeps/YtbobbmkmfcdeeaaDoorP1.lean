/- MachineKeeps is true at every three numbers, and leaves its arguments as they were, in whatever memory holds the two tables of package word as the program lays them: the row, and its tied card. -/
import Derived.Test.YtbobbmkmfcdeeaaDoorP0
import Derived.Test.YtbobbmkmfcdeeaaDoorJ1
import Derived.Test.YtbobbmkmfcdeeaaDoorJA
import Derived.Test.YtbobbmkmfcdeeaaDoorTie
import Derived.Test.YtbobbmkmfcdeeaaDoorCards
import Derived.SevenTiedAt
namespace Go.Proofs.YtbobbmkmfcdeeaaDoor
open Go Go.ChangeShapes Go.WideShapes Go.ChangeAt Go.WideMaps Go.WideElems Go.RowKit

/-- MachineKeeps: true at all arguments; nothing that was there has turned. -/
theorem keeps_all (y t v : Int) (w : World) (ht : Tabs T w) (hv0 : -9223372036854775808 ≤ v) (hv1 : v ≤ 9223372036854775807) :
    Calls Tryd.prog 5 #[.int .i64 y, .int .i64 t, .int .i64 v] w fun e w' => e = .returned (.bool true) ∧ Below w.heap.size w w' := by
  have hP0 : 0 ≤ pickV y 40 := Int.emod_nonneg _ (by omega)
  have hP1 : pickV y 40 < 40 := Int.emod_lt_of_pos _ (by omega)
  obtain ⟨p, hp⟩ := Int.eq_ofNat_of_zero_le hP0
  have hL : 8 * (1 + pickV y 40) = ((8 * (1 + p) : Nat) : Int) := by rw [hp]; omega
  have hL0 : 8 ≤ 8 * (1 + p) := by omega
  have hL1 : 8 * (1 + p) ≤ 320 := by omega
  have hL2 : 8 * (1 + p) % 8 = 0 := by omega
  generalize 8 * (1 + p) = L at *
  by_cases h0 : 0 ≤ t
  · by_cases h1 : t ≤ (L : Int)
    · by_cases hm : t % 8 = 0
      · by_cases he : (L : Int) < t + 8
        · exact keeps_in_end y t v L w ht hL hL0 hL1 hL2 h0 h1 hm he
        · exact keeps_in y t v L w ht hL hL0 hL1 hL2 hv0 hv1 h0 h1 (by simp [hasB]; omega)
      · exact keeps_in_mod y t v L w ht hL hL0 hL1 hL2 h0 h1 hm
    · have hout : t < 0 ∨ (0 ≤ t ∧ (L : Int) < t) := .inr ⟨h0, by omega⟩
      by_cases ha0 : 0 ≤ pickV t ((L : Int) + 16) - 8
      · by_cases hm : (pickV t ((L : Int) + 16) - 8) % 8 = 0
        · by_cases he : (L : Int) < pickV t ((L : Int) + 16) - 8 + 8
          · exact keeps_out_end y t v L w ht hL hL0 hL1 hL2 _ rfl hout ha0 hm he
          · exact keeps_out y t v L w ht hL hL0 hL1 hL2 hv0 hv1 _ rfl hout (by simp [hasB]; omega)
        · exact keeps_out_mod y t v L w ht hL hL0 hL1 hL2 _ rfl hout ha0 hm
      · exact keeps_out_neg y t v L w ht hL hL0 hL1 hL2 _ rfl hout (by omega)
  · have hout : t < 0 ∨ (0 ≤ t ∧ (L : Int) < t) := .inl (by omega)
    by_cases ha0 : 0 ≤ pickV t ((L : Int) + 16) - 8
    · by_cases hm : (pickV t ((L : Int) + 16) - 8) % 8 = 0
      · by_cases he : (L : Int) < pickV t ((L : Int) + 16) - 8 + 8
        · exact keeps_out_end y t v L w ht hL hL0 hL1 hL2 _ rfl hout ha0 hm he
        · exact keeps_out y t v L w ht hL hL0 hL1 hL2 hv0 hv1 _ rfl hout (by simp [hasB]; omega)
      · exact keeps_out_mod y t v L w ht hL hL0 hL1 hL2 _ rfl hout ha0 hm
    · exact keeps_out_neg y t v L w ht hL hL0 hL1 hL2 _ rfl hout (by omega)

set_option maxRecDepth 100000 in
theorem keeps_lifted (os : Os) (started : os.Started) (H : Type) (enc : TypeId × Value → H) :
    ReturnsInHanded {} Tryd.checked os 5 .any (fun w args => (Rows.machineKeepsSpec.pre enc Tryd.prog Tryd.f5 [] false w args ∧ laidMetH Tryd.prog laid2 w) ∧ sizedMet enc Tryd.prog Tryd.f5 (OpenSpec.ofChange Rows.machineKeepsSpec) false w args)
      (Rows.machineKeepsSpec.post enc Tryd.prog Tryd.f5 false true false false) := by
  refine returnsInHanded_of_change_and (C := Tryd.checked) (X := fun w _ => laidMetH Tryd.prog laid2 w) (fun _ _ _ hh h => h.of_heap hh) own started (by kernel_rfl) Tryd.func5
    (ChangeSpec.witness_shaped (enc := enc) (C := Tryd.checked) (os := os) (X := fun w _ => laidMetH Tryd.prog laid2 w) false (World.doorLaid Tryd.prog 84 os) #[.int .i64 0, .int .i64 0, .int .i64 0] 8 rfl (World.shaped_of_RefB (by kernel_rfl) (by kernel_rfl)) (by kernel_rfl) (by kernel_rfl) (by kernel_rfl) (door_met2 os _)) ?_
  intro W base args ds gs before hval0 hW _ _ hL _
  have hval : ∀ (j : Nat) t v, Tryd.f5.params[j]? = some t → args[j]? = some v → Value.okWide Tryd.prog W .any base t v := hval0
  have hW' := hW
  obtain ⟨p, q, hA0, hV, rfl, hfz, hnd⟩ := hW
  have hA : DataW.TrodAll enc Tryd.prog W 0 (fun _ => true) true Tryd.f5.params.toList args.toList ds p := hA0
  rw [Tryd.params5] at hA hval
  obtain ⟨v0, v1, v2, d0, d1, d2, p0, p1, p2, rfl, rfl, rfl, h0, h1, h2⟩ := trodAll_three hA
  obtain ⟨rfl, rfl⟩ := trodVars_none hV
  obtain ⟨y, rfl, rfl, rfl, wy⟩ := open_int Tryd.underlying3 (hval 0 3 v0 rfl rfl) h0
  obtain ⟨t, rfl, rfl, rfl, wt⟩ := open_int Tryd.underlying2 (hval 1 2 v1 rfl rfl) h1
  obtain ⟨v, rfl, rfl, rfl, wv⟩ := open_int Tryd.underlying2 (hval 2 2 v2 rfl rfl) h2
  clear hA0 hval0
  refine (keeps_all y t v W (tabs_of_laid2 hL) (i64_range wv).1 (i64_range wv).2).mono fun e W' ⟨he, bel⟩ => ?_
  subst he
  exact ⟨_, rfl, _, _, _, [], _, [], hW', trodAll_mk1 (shut_bool Tryd.underlying4 _), (trodAll_cons_mk (shut_int Tryd.underlying3 wy) (trodAll_cons_mk (shut_int Tryd.underlying2 wt) (trodAll_cons_mk (shut_int Tryd.underlying2 wv) trodAll_mk0))), rfl, bel.frame _, fun h => by cases h⟩

theorem keeps_row : Rows.MachineKeepsSaid :=
  OpenClaim.holds_of_wide 5 Tryd.f5 rfl rfl rfl rfl rfl rfl rfl ⟨rfl, rfl, rfl, rfl, rfl⟩ rfl rfl rfl rfl rfl (by kernel_rfl) Tryd.func5 (by kernel_rfl)
    (of_decide_eq_true (by kernel_rfl)) (by unfold Func.isWrapper; first | (rw [if_pos (by decide +kernel)]; kernel_rfl) | (rw [if_neg (by decide +kernel)]; exact ⟨rfl, rfl⟩))
    (fun os started H enc _ => keeps_lifted os started H enc)

theorem machineKeeps_holds : Rows.MachineKeepsCardSaid :=
  Claim7.holds_tied_plain_at .later [] [.data, .data] true (true, "f1a0a074830c207c15debca3b27c5888a8ef051da4f9ae5bcc383fe4c35039eb") true
    keeps_row (fun _ h => by cases h) (by kernel_rfl) (fun _ h => by cases h) machineKeeps_row_tie rfl ⟨rfl, rfl⟩ (by kernel_rfl) rfl
    (fun f fn hf hfn => by
      obtain rfl : f = 5 := Option.some.inj ((show Tryd.prog.funcNamed "bloomery/bloomerykeep.MachineKeeps" = some 5 by kernel_rfl).symm.trans hf) |>.symm
      obtain rfl : fn = Tryd.f5 := (Option.some.inj (Tryd.func5.symm.trans hfn)).symm
      exact ⟨by kernel_rfl, fun j t ht => by
        rw [Tryd.params5] at ht
        have hm : t ∈ [3, 2, 2] := by simpa using Array.mem_of_getElem? ht
        have hall : ([3, 2, 2].all fun u => !Tryd.prog.wantsStandIn u) = true := by kernel_rfl
        exact (show Tryd.prog.wantsStandIn t = false by simpa using List.all_eq_true.1 hall t hm)⟩)
    (by kernel_rfl)
#print axioms machineKeeps_holds
end Go.Proofs.YtbobbmkmfcdeeaaDoor
