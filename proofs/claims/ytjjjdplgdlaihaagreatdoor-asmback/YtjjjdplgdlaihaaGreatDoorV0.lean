/- written: a fact that the statements ask first. -/
import Derived.Test.YtjjjdplgdlaihaaGreatDoorS1
import Derived.Test.YtjjjdplgdlaihaaGreatDoorP1
namespace Go.Proofs.YtjjjdplgdlaihaaGreatDoor
set_option linter.unusedVariables false
open Go Go.RowKit

def wrT : By := [97, 58, 10, 98, 101, 113, 32, 120, 49, 44, 120, 48, 44, 97, 10, 106, 97, 108, 32, 120, 48, 44, 98, 10, 98, 58]
def wrO : List Dr := [⟨25, 0, 1, 0, 0, []⟩, ⟨30, 0, 0, 0, 4, []⟩]
set_option maxRecDepth 100000 in
theorem wr_asm : asmV rtD wrT = .ok wrO := by kernel_rfl
theorem wr_pr : prV ⟨22, 5, 2, 0, -8, []⟩ = [108, 100, 32, 120, 53, 44, 45, 56, 40, 120, 50, 41] := by decide +kernel
theorem wr_rt : Rt 22 5 2 0 (-8) = true := by decide +kernel

set_option maxRecDepth 100000 in
set_option maxHeartbeats 2000000 in
theorem written_any (w : World) (he : Env w) (hw : 11 ≤ w.heap.size) :
    Calls Tryz.prog 16 #[] w fun e w' => e = .returned (.bool true) ∧ Below w.heap.size w w' := by
  have HP : Hid (Calls Tryz.prog 12 #[.agg #[.int .i64 22, .int .i64 5, .int .i64 2, .int .i64 0, .int .i64 (-8)]] w fun e w' => e = .returned (.tuple #[.string ⟨#[108, 100, 32, 120, 53, 44, 45, 56, 40, 120, 50, 41]⟩, .nilIface]) ∧ Below w.heap.size w w') := by
    have := print_yes 22 5 2 0 (-8) w he wr_rt (by decide) (by decide)
    have e : prV ⟨((22 : Nat) : Int), 5, 2, 0, -8, []⟩ = [108, 100, 32, 120, 53, 44, 45, 56, 40, 120, 50, 41] := wr_pr
    rw [e] at this
    exact this
  have HA : Hid (∀ w1, Below w.heap.size w w1 → Calls Tryz.prog 6 #[.string ⟨#[97, 58, 10, 98, 101, 113, 32, 120, 49, 44, 120, 48, 44, 97, 10, 106, 97, 108, 32, 120, 48, 44, 98, 10, 98, 58]⟩] w1 fun e w' => ∃ g c, e = .returned (.tuple #[.slice (some ⟨g, 0, none⟩) 2 c, .nilIface]) ∧ (w'.cell? ⟨g, 4, none⟩ = some (.int .i64 0) ∧ w'.cell? ⟨g, 9, none⟩ = some (.int .i64 4)) ∧ Below w1.heap.size w1 w') := fun w1 hb => by
    refine (assemble_ok ⟨#[97, 58, 10, 98, 101, 113, 32, 120, 49, 44, 120, 48, 44, 97, 10, 106, 97, 108, 32, 120, 48, 44, 98, 10, 98, 58]⟩ w1 (he.below hb) (by have := hb.size; omega) (by decide) wrO wr_asm).mono ?_
    rintro e w' ⟨v, rfl, hr, hb'⟩
    obtain ⟨g, c, rfl⟩ := ownsRow_succ hr
    exact ⟨g, c, rfl, ⟨(five_of hr 0 _ rfl).c4, (five_of hr 1 _ rfl).c4⟩, hb'⟩
  clear he
  go_enter Tryz.func16, Tryz.ntmps16
  go_wp2_with (first
    | (go_at_call 12; refine HP.out.mono ?_; rintro e w1 ⟨rfl, hb1⟩; have HB1 : Hid (Below w.heap.size w w1) := hb1; clear hb1)
    | (go_at_call 6; refine (HA.out _ HB1.out).mono ?_; rintro e w2 ⟨g, c, rfl, ⟨c4, c9⟩, hb2⟩; have HB2 : Hid (Below w.heap.size w w2) := HB1.out.trans (hb2.mono HB1.out.size); clear hb2))
  go_ret
  exact ⟨rfl, HB2.out⟩
end Go.Proofs.YtjjjdplgdlaihaaGreatDoor
