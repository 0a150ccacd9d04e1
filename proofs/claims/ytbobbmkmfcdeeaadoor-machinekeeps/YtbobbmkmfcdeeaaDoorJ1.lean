/- MachineKeeps, walked: a place that is there. -/
import Derived.Test.YtbobbmkmfcdeeaaDoorJ0
namespace Go.Proofs.YtbobbmkmfcdeeaaDoor
open Go Go.RowKit

set_option maxRecDepth 100000 in
set_option maxHeartbeats 4000000 in
theorem keeps_in (y t v : Int) (L : Nat) (w : World) (ht : Tabs T w) (hL : 8 * (1 + pickV y 40) = (L : Int)) (hL0 : 8 ≤ L) (hL1 : L ≤ 320) (hL2 : L % 8 = 0) (hv0 : -9223372036854775808 ≤ v) (hv1 : v ≤ 9223372036854775807) (h0 : 0 ≤ t) (h1 : t ≤ (L : Int)) (hh : hasB L t 8 = true) :
    Calls Tryd.prog 5 #[.int .i64 y, .int .i64 t, .int .i64 v] w fun e w' => e = .returned (.bool true) ∧ Below w.heap.size w w' := by
  have HT : Hid (Tabs T w) := ht
  have hz1 : 1 < w.heap.size := (ht 1 (by omega) (by omega)).z1
  have HH : Hid (hasB L t 8 = true) := hh
  obtain ⟨q0, q1, q2⟩ := has_split hh
  have q3 : t + 8 ≤ (L : Int) := by omega
  clear ht hh
  have hP0 : 0 ≤ pickV y 40 := Int.emod_nonneg _ (by omega)
  have hP1 : pickV y 40 < 40 := Int.emod_lt_of_pos _ (by omega)
  have HPK : Hid (∀ w, Calls Tryd.prog 20 #[.int .i64 y, .int .i64 40] w fun e w' => e = .returned (.int .i64 (pickV y 40)) ∧ w' = w) := fun w => pick_gen y 40 w (by omega) (by omega)
  generalize pickV y 40 = P at *
  have d0 : decide (t < 0) = false := by simpa using h0
  have d1 : decide ((L : Int) < t) = false := by simpa using h1
  have d2 : decide (0 ≤ t) = true := by simpa using h0
  have d3 : decide (t + 8 ≤ (L : Int)) = true := by simpa using q3
  go_enter Tryd.func5, Tryd.ntmps5
  go_wp2_with (first
    | (go_at_call 19; refine (driven_any _ HT.out).mono ?_; rintro e w1 ⟨rfl, hb⟩; have HB1 : Hid (Below _ _ w1) := hb; clear hb)
    | (go_at_call 20; refine (HPK.out _).mono ?_; rintro e w1 ⟨rfl, rfl⟩)
    | (go_at_call 7; fail))
  have hz2 : w.heap.size ≤ w1.heap.size := HB1.out.size
  refine (kp_new w1 L hL0 (by omega) hL2 (by omega)).mono ?_
  rintro e w2 ⟨s, rfl, mb, gv, hk, hb2, hmb⟩
  have HK : Hid (KpC w2 s mb L (newV L [1, 2] []) gv (.slice none 0 0)) := hk
  have HB2 : Hid (Below w.heap.size w w2) := HB1.out.trans (hb2.mono hz2)
  have hmb' : w.heap.size ≤ mb := Nat.le_trans hz2 hmb
  have HL0 : Hid (Calls Tryd.prog 13 #[.pointer (some ⟨s, 0, none⟩), .int .i64 0] w2 fun e w' => e = .returned (.tuple #[.int .i64 8589934593, .nilIface]) ∧ w' = w2) := by
    have := kp_load hk 0 (by omega) 8589934593 ld_first
    exact (show Calls Tryd.prog 13 _ _ _ by simpa using this)
  clear hk hb2 HB1 hmb
  go_wp2_with (first
    | (go_at_call 13; refine HL0.out.mono ?_; rintro e w2 ⟨rfl, rfl⟩)
    | (go_at_call 14; refine (store_yes _ s mb L _ gv _ t v HK.out.core HH.out).mono ?_; rintro e w3 ⟨rfl, hc3, ho3⟩))
  have HK3 : Hid (KpC w3 s mb L { newV L [1, 2] [] with M := layTo (layW [1, 2] 2) t.toNat (v % 18446744073709551616) 8 } gv (.slice none 0 0)) := ⟨hc3, hL0, hL2⟩
  have HB3 : Hid (Below w.heap.size w w3) := HB2.out.trans (ho3.below HB2.out.size (fun i hi e => by omega))
  clear hc3 ho3 HL0 HK HH HT
  have Q1 : Hid (t % 8 = 0) := q1
  clear q1
  go_loopw [11] (fun i wr => ∃ j : Nat, 8 * j ≤ L ∧ i = .int .i64 (8 * (j : Int)) ∧ Hid (KpC wr s mb L { newV L [1, 2] [] with M := layTo (layW [1, 2] 2) t.toNat (v % 18446744073709551616) 8 } gv (.slice none 0 0) ∧ Below w.heap.size w wr)) (fun i _ => L - (intOf i).toNat)
  case atStart => exact ⟨0, by omega, by simp, HK3.out, HB3.out⟩
  case round =>
    obtain ⟨j, hj, rfl, hk⟩ := hrel
    clear HK3 HB3
    by_cases hlt : 8 * j < L
    · have HLD : Hid (∀ x, ldV (layTo (layW [1, 2] 2) t.toNat (v % 18446744073709551616) 8) (8 * j) = x → Calls Tryd.prog 13 #[.pointer (some ⟨s, 0, none⟩), .int .i64 (8 * (j : Int))] wr fun e w' => e = .returned (.tuple #[.int .i64 x, .nilIface]) ∧ w' = wr) := fun x hx => kp_load hk.out.1 j hlt x hx
      have hlt' : 8 * (j : Int) < (L : Int) := by omega
      have HW : Hid (∃ x, (∀ (b1 b2 : Bool), (8 * (j : Int) == 0) = b1 → (8 * (j : Int) == t) = b2 → x = (if b2 then v else if b1 then 8589934593 else 0)) ∧ Calls Tryd.prog 13 #[.pointer (some ⟨s, 0, none⟩), .int .i64 (8 * (j : Int))] wr fun e w' => e = .returned (.tuple #[.int .i64 x, .nilIface]) ∧ w' = wr) := by
        have q1 := Q1.out
        by_cases hjt : 8 * (j : Int) = t
        · refine ⟨v, fun b1 b2 _ e2 => by rw [← e2, beq_iff_eq.2 hjt]; rfl, HLD.out v ?_⟩
          rw [show t.toNat = 8 * j by omega]; exact ld_in _ _ _ hv0 hv1
        · have hne : 8 * j + 8 ≤ t.toNat ∨ t.toNat + 8 ≤ 8 * j := by omega
          by_cases hj0 : j = 0
          · refine ⟨8589934593, fun b1 b2 e1 e2 => ?_, HLD.out _ ?_⟩
            · have hb2 : b2 = false := by rw [← e2]; simpa using hjt
              have hb1 : b1 = true := by rw [← e1, hj0]; rfl
              rw [hb1, hb2]; rfl
            · rw [ld_out _ _ _ _ hne, hj0]; exact ld_first
          · refine ⟨0, fun b1 b2 e1 e2 => ?_, HLD.out _ ?_⟩
            · have hb2 : b2 = false := by rw [← e2]; simpa using hjt
              have hb1 : b1 = false := by rw [← e1]; simp; omega
              rw [hb1, hb2]; rfl
            · rw [ld_out _ _ _ _ hne]; exact ld_rest _ (by omega)
      obtain ⟨x, hx, hcall⟩ := HW.out
      have HC : Hid (Calls Tryd.prog 13 #[.pointer (some ⟨s, 0, none⟩), .int .i64 (8 * (j : Int))] wr fun e w' => e = .returned (.tuple #[.int .i64 x, .nilIface]) ∧ w' = wr) := hcall
      have HXX : Hid (∀ (b1 b2 : Bool), (8 * (j : Int) == 0) = b1 → (8 * (j : Int) == t) = b2 → x = (if b2 then v else if b1 then 8589934593 else 0)) := hx
      clear HW hx hcall HLD
      cases hb1 : (8 * (j : Int) == 0) <;> cases hb2 : (8 * (j : Int) == t)
      all_goals
        have hxx := HXX.out _ _ hb1 hb2
        simp only [if_true, if_false, Bool.false_eq_true] at hxx
        subst hxx
        go_wp2_with (go_at_call 13; refine HC.out.mono ?_; rintro e w' ⟨rfl, rfl⟩)
        exact ⟨⟨j + 1, by omega, by go_num, hk⟩, by simp [intOf]; omega⟩
    · have e8 : 8 * (j : Int) = (L : Int) := by omega
      have hlt' : ¬ 8 * (j : Int) < (L : Int) := by omega
      clear e8
      go_wp2_with fail
      go_ret
      exact ⟨rfl, hk.out.2⟩
end Go.Proofs.YtbobbmkmfcdeeaaDoor
